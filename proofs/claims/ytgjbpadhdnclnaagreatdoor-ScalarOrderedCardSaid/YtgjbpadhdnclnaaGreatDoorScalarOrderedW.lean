/- The walk of the law ScalarOrdered. -/
import Derived.Test.YtgjbpadhdnclnaaGreatDoorOrdM
import Derived.BigRegion
import Derived.BigQuiet
set_option linter.unusedSimpArgs false
set_option linter.unusedVariables false
namespace Go.Proofs.YtgjbpadhdnclnaaGreatDoor.ScalarOrderedW
open Go.RowKit Nums Byt UtfM UtfS ScaM ScaV ScaA ScaB ScaC ScaS ScpM ScpA ScpE Ld Box Val CloM CloB CloC NorP CmpP ScalarKindsW ScalarNormsW ScalarComparesW OrdM

section
variable {P : Program} {md : Region.Mode} {ops : Array Oper} {Q : Exit → Act → World → Prop} {S : World → Prop}
theorem take_to {i d : Nat} {oi : Oper} {v : Value} {fuel : Nat} {listed : Array Bool} {a : Act} {w : World} (hi : ops[i]? = some oi) (hd : oi.dst = some d)
    (hs : Region.noSelect ops = true) (hf : Region.free md ops listed i = true) (hr : (Region.ready md ops listed).contains i = true)
    (hQ : ∀ c a w, Q (.panic c) (a.put (some d) v) w → Q (.panic c) a w) (hy : YieldsIf P ops S oi v a) (hS : S w)
    (h : wpAnyH P md ops Q S fuel (listed.setIfInBounds i true) (a.put (some d) v) w) : wpAnyH P md ops Q S (fuel + 1) listed a w :=
  wpAnyH_take hi hs hf hr (by rw [hd]; exact hQ) hy hS (by rw [hd]; exact h)
end

set_option maxHeartbeats 40000000 in
set_option maxRecDepth 100000 in
theorem walk (v : SV) (n : Nat) (u : SV) (n' : Nat) (z : SV) (n'' : Nat) (w : World) (hv : Tree w (· < w.heap.size) n v) (hu : Tree w (· < w.heap.size) n' u) (hz : Tree w (· < w.heap.size) n'' z) (hL : Ld w) :
    Calls Tryz.prog 6 #[vv v, vv u, vv z] w fun e w' => e = .returned (.bool true) ∧ Below w.heap.size w w' := by
  have ok := hv.ok
  have ok' := hu.ok
  have ok'' := hz.ok
  obtain ⟨p, hp⟩ : ∃ p, p = cmpP (sc v) (sc u) := ⟨_, rfl⟩
  obtain ⟨q, hq⟩ : ∃ q, q = cmpP (sc u) (sc z) := ⟨_, rfl⟩
  obtain ⟨r, hr⟩ : ∃ r, r = cmpP (sc v) (sc z) := ⟨_, rfl⟩
  have CAB := Lib.hid fun w => cmp_p v u ok.b ok'.b w
  have CBC := Lib.hid fun w => cmp_p u z ok'.b ok''.b w
  have CAC := Lib.hid fun w => cmp_p v z ok.b ok''.b w
  have FA := Lib.hid fun w => fits_p v.k v ok.b ok.ts ok.sum w
  have FB := Lib.hid fun w => fits_p u.k u ok'.b ok'.ts ok'.sum w
  have SM := Lib.hid fun fa fb => same_iff (sc v) (sc u) ok.b ok'.b fa fb
  have tri := tri_P (sc v) (sc u) (sc z)
  have r1 := cmp_range (sc v) (sc u)
  have r2 := cmp_range (sc u) (sc z)
  rw [← hp, ← hq, ← hr] at tri
  rw [← hp] at CAB SM r1
  rw [← hq] at CBC r2
  rw [← hr] at CAC
  obtain ⟨fA, hfa⟩ : ∃ x, x = fitsB v.k (sc v) := ⟨_, rfl⟩
  obtain ⟨fB, hfb⟩ : ∃ x, x = fitsB u.k (sc u) := ⟨_, rfl⟩
  rw [← hfa] at FA
  rw [← hfb] at FB
  replace SM : Hid (fA = true → fB = true → sameB (normV (sc v)) (normV (sc u)) = (p == 0)) := Lib.hid (fun h1 h2 => SM.out (hfa ▸ h1) (hfb ▸ h2))
  have HV := Lib.hid hv
  have HU := Lib.hid hu
  clear hp hq hr ok ok' ok'' hv hu hz hfa hfb
  have cs : (p = 1) ∨ (p ≠ 1 ∧ q = 1) ∨ (p = 0 ∧ q = 0 ∧ r = 0) ∨ (p = 0 ∧ q = -1 ∧ r = -1) ∨ (p = -1 ∧ (q = 0 ∨ q = -1) ∧ r = -1) := by
    obtain ⟨t1, t2⟩ := tri
    rcases r1 with e | e | e <;> rcases r2 with e' | e' | e'
    · exact .inr (.inr (.inr (.inr ⟨e, .inr e', t2 (by omega) (by omega) (.inl e)⟩)))
    · exact .inr (.inr (.inr (.inr ⟨e, .inl e', t2 (by omega) (by omega) (.inl e)⟩)))
    · exact .inr (.inl ⟨by omega, e'⟩)
    · exact .inr (.inr (.inr (.inl ⟨e, e', t2 (by omega) (by omega) (.inr e')⟩)))
    · exact .inr (.inr (.inl ⟨e, e', t1 e e'⟩))
    · exact .inr (.inl ⟨by omega, e'⟩)
    · exact .inl e
    · exact .inl e
    · exact .inl e
  have pc : p = -1 ∨ p = 0 ∨ p = 1 := r1
  clear tri r1 r2
  obtain ⟨k, b, t, a1, l1, c1, a2, l2, c2, a3, l3, c3, a4, l4, c4⟩ := v
  obtain ⟨k', b', t', a1', l1', c1', a2', l2', c2', a3', l3', c3', a4', l4', c4'⟩ := u
  obtain ⟨k'', b'', t'', a1'', l1'', c1'', a2'', l2'', c2'', a3'', l3'', c3'', a4'', l4'', c4''⟩ := z
  simp only [vv] at *
  go_enter Tryz.func6, Tryz.ntmps6
  go_wp2_with fail
  have BA := (((b7_new w (.int .i64 k) (.int .u64 b) (.string t) (.slice a1 l1 c1) (.slice a2 l2 c2) (.slice a3 l3 c3) (.slice a4 l4 c4) 28).alloc (.cells #[.int .i64 k', .int .u64 b', .string t', .slice a1' l1' c1', .slice a2' l2' c2', .slice a3' l3' c3', .slice a4' l4' c4'] 28)).alloc (.cells #[.int .i64 k'', .int .u64 b'', .string t'', .slice a1'' l1'' c1'', .slice a2'' l2'' c2'', .slice a3'' l3'' c3'', .slice a4'' l4'' c4''] 28)).drew
  have BB := ((b7_new (w.alloc (.cells #[.int .i64 k, .int .u64 b, .string t, .slice a1 l1 c1, .slice a2 l2 c2, .slice a3 l3 c3, .slice a4 l4 c4] 28)) (.int .i64 k') (.int .u64 b') (.string t') (.slice a1' l1' c1') (.slice a2' l2' c2') (.slice a3' l3' c3') (.slice a4' l4' c4') 28).alloc (.cells #[.int .i64 k'', .int .u64 b'', .string t'', .slice a1'' l1'' c1'', .slice a2'' l2'' c2'', .slice a3'' l3'' c3'', .slice a4'' l4'' c4''] 28)).drew
  have BD := (b7_new ((w.alloc (.cells #[.int .i64 k, .int .u64 b, .string t, .slice a1 l1 c1, .slice a2 l2 c2, .slice a3 l3 c3, .slice a4 l4 c4] 28)).alloc (.cells #[.int .i64 k', .int .u64 b', .string t', .slice a1' l1' c1', .slice a2' l2' c2', .slice a3' l3' c3', .slice a4' l4' c4'] 28)) (.int .i64 k'') (.int .u64 b'') (.string t'') (.slice a1'' l1'' c1'') (.slice a2'' l2'' c2'') (.slice a3'' l3'' c3'') (.slice a4'' l4'' c4'') 28).drew
  rw [show (w.alloc (.cells #[.int .i64 k, .int .u64 b, .string t, .slice a1 l1 c1, .slice a2 l2 c2, .slice a3 l3 c3, .slice a4 l4 c4] 28)).heap.size = w.heap.size + 1 from by simp] at BB
  rw [show ((w.alloc (.cells #[.int .i64 k, .int .u64 b, .string t, .slice a1 l1 c1, .slice a2 l2 c2, .slice a3 l3 c3, .slice a4 l4 c4] 28)).alloc (.cells #[.int .i64 k', .int .u64 b', .string t', .slice a1' l1' c1', .slice a2' l2' c2', .slice a3' l3' c3', .slice a4' l4' c4'] 28)).heap.size = w.heap.size + 2 from by simp] at BD
  have HB := (bt (two_box w (.cells #[.int .i64 k, .int .u64 b, .string t, .slice a1 l1 c1, .slice a2 l2 c2, .slice a3 l3 c3, .slice a4 l4 c4] 28) (.cells #[.int .i64 k', .int .u64 b', .string t', .slice a1' l1' c1', .slice a2' l2' c2', .slice a3' l3' c3', .slice a4' l4' c4'] 28)) (below_box _ (.cells #[.int .i64 k'', .int .u64 b'', .string t'', .slice a1'' l1'' c1'', .slice a2'' l2'' c2'', .slice a3'' l3'' c3'', .slice a4'' l4'' c4''] 28))).drew
  have TA := treeB HV.out HB
  have TB := treeB HU.out HB
  replace hL := hL.below HB
  clear HV HU
  go_region_held3 (fun w' => (w'.cell? ⟨w.heap.size, 0, none⟩ = some (.int .i64 k) ∧ w'.cell? ⟨w.heap.size, 1, none⟩ = some (.int .u64 b) ∧ w'.cell? ⟨w.heap.size, 2, none⟩ = some (.string t) ∧ w'.cell? ⟨w.heap.size, 3, none⟩ = some (.slice a1 l1 c1) ∧ w'.cell? ⟨w.heap.size, 4, none⟩ = some (.slice a2 l2 c2) ∧ w'.cell? ⟨w.heap.size, 5, none⟩ = some (.slice a3 l3 c3) ∧ w'.cell? ⟨w.heap.size, 6, none⟩ = some (.slice a4 l4 c4)) ∧ (w'.cell? ⟨w.heap.size + 1, 0, none⟩ = some (.int .i64 k') ∧ w'.cell? ⟨w.heap.size + 1, 1, none⟩ = some (.int .u64 b') ∧ w'.cell? ⟨w.heap.size + 1, 2, none⟩ = some (.string t') ∧ w'.cell? ⟨w.heap.size + 1, 3, none⟩ = some (.slice a1' l1' c1') ∧ w'.cell? ⟨w.heap.size + 1, 4, none⟩ = some (.slice a2' l2' c2') ∧ w'.cell? ⟨w.heap.size + 1, 5, none⟩ = some (.slice a3' l3' c3') ∧ w'.cell? ⟨w.heap.size + 1, 6, none⟩ = some (.slice a4' l4' c4')) ∧ (w'.cell? ⟨w.heap.size + 2, 0, none⟩ = some (.int .i64 k'') ∧ w'.cell? ⟨w.heap.size + 2, 1, none⟩ = some (.int .u64 b'') ∧ w'.cell? ⟨w.heap.size + 2, 2, none⟩ = some (.string t'') ∧ w'.cell? ⟨w.heap.size + 2, 3, none⟩ = some (.slice a1'' l1'' c1'') ∧ w'.cell? ⟨w.heap.size + 2, 4, none⟩ = some (.slice a2'' l2'' c2'') ∧ w'.cell? ⟨w.heap.size + 2, 5, none⟩ = some (.slice a3'' l3'' c3'') ∧ w'.cell? ⟨w.heap.size + 2, 6, none⟩ = some (.slice a4'' l4'' c4''))) (with_reducible exact ⟨BA.cells, BB.cells, BD.cells⟩)
    (first
      | (go_at_call_of 16 (Value.agg #[.int .i64 k, .int .u64 b, .string t, .slice a1 l1 c1, .slice a2 l2 c2, .slice a3 l3 c3, .slice a4 l4 c4]); go_at_call_of 16 (Value.agg #[.int .i64 k', .int .u64 b', .string t', .slice a1' l1' c1', .slice a2' l2' c2', .slice a3' l3' c3', .slice a4' l4' c4']); refine (CAB.out _).mono ?_; rintro _ w2 ⟨rfl, hb⟩; have BA := BA.below hb; have BB := BB.below hb; have BD := BD.below hb; have HB := bt HB hb; have hL := hL.below hb; have TA := treeB TA hb; have TB := treeB TB hb; clear hb)
      | (go_at_call_of 16 (Value.agg #[.int .i64 k', .int .u64 b', .string t', .slice a1' l1' c1', .slice a2' l2' c2', .slice a3' l3' c3', .slice a4' l4' c4']); go_at_call_of 16 (Value.agg #[.int .i64 k'', .int .u64 b'', .string t'', .slice a1'' l1'' c1'', .slice a2'' l2'' c2'', .slice a3'' l3'' c3'', .slice a4'' l4'' c4'']); refine (CBC.out _).mono ?_; rintro _ w2 ⟨rfl, hb⟩; have BA := BA.below hb; have BB := BB.below hb; have BD := BD.below hb; have HB := bt HB hb; have hL := hL.below hb; have TA := treeB TA hb; have TB := treeB TB hb; clear hb)
      | (go_at_call_of 16 (Value.agg #[.int .i64 k, .int .u64 b, .string t, .slice a1 l1 c1, .slice a2 l2 c2, .slice a3 l3 c3, .slice a4 l4 c4]); go_at_call_of 16 (Value.agg #[.int .i64 k'', .int .u64 b'', .string t'', .slice a1'' l1'' c1'', .slice a2'' l2'' c2'', .slice a3'' l3'' c3'', .slice a4'' l4'' c4'']); refine (CAC.out _).mono ?_; rintro _ w2 ⟨rfl, hb⟩; have BA := BA.below hb; have BB := BB.below hb; have BD := BD.below hb; have HB := bt HB hb; have hL := hL.below hb; have TA := treeB TA hb; have TB := treeB TB hb; clear hb))
  have cs2 : p = 1 ∨ (p = -1 ∧ q = 1) ∨ (p = 0 ∧ q = 1) ∨ (p = 0 ∧ q = 0 ∧ r = 0) ∨ (p = 0 ∧ q = -1 ∧ r = -1) ∨ (p = -1 ∧ q = 0 ∧ r = -1) ∨ (p = -1 ∧ q = -1 ∧ r = -1) := by omega
  clear cs pc CAB CBC CAC
  rcases cs2 with rfl | ⟨rfl, rfl⟩ | ⟨rfl, rfl⟩ | ⟨rfl, rfl, rfl⟩ | ⟨rfl, rfl, rfl⟩ | ⟨rfl, rfl, rfl⟩ | ⟨rfl, rfl, rfl⟩
  · go_wp2_with fail
    have BA := BA.drew
    have BB := BB.drew
    have BD := BD.drew
    have TA := treeB TA (Below.refl _ _).drew
    have TB := treeB TB (Below.refl _ _).drew
    have hL := hL.below (Below.refl _ _).drew
    have HB := HB.drew
    cases fA with
    | false =>
      refine wp_region_held_drew (S := (fun w' => (w'.cell? ⟨w.heap.size, 0, none⟩ = some (.int .i64 k) ∧ w'.cell? ⟨w.heap.size, 1, none⟩ = some (.int .u64 b) ∧ w'.cell? ⟨w.heap.size, 2, none⟩ = some (.string t) ∧ w'.cell? ⟨w.heap.size, 3, none⟩ = some (.slice a1 l1 c1) ∧ w'.cell? ⟨w.heap.size, 4, none⟩ = some (.slice a2 l2 c2) ∧ w'.cell? ⟨w.heap.size, 5, none⟩ = some (.slice a3 l3 c3) ∧ w'.cell? ⟨w.heap.size, 6, none⟩ = some (.slice a4 l4 c4)) ∧ (w'.cell? ⟨w.heap.size + 1, 0, none⟩ = some (.int .i64 k') ∧ w'.cell? ⟨w.heap.size + 1, 1, none⟩ = some (.int .u64 b') ∧ w'.cell? ⟨w.heap.size + 1, 2, none⟩ = some (.string t') ∧ w'.cell? ⟨w.heap.size + 1, 3, none⟩ = some (.slice a1' l1' c1') ∧ w'.cell? ⟨w.heap.size + 1, 4, none⟩ = some (.slice a2' l2' c2') ∧ w'.cell? ⟨w.heap.size + 1, 5, none⟩ = some (.slice a3' l3' c3') ∧ w'.cell? ⟨w.heap.size + 1, 6, none⟩ = some (.slice a4' l4' c4')) ∧ (w'.cell? ⟨w.heap.size + 2, 0, none⟩ = some (.int .i64 k'') ∧ w'.cell? ⟨w.heap.size + 2, 1, none⟩ = some (.int .u64 b'') ∧ w'.cell? ⟨w.heap.size + 2, 2, none⟩ = some (.string t'') ∧ w'.cell? ⟨w.heap.size + 2, 3, none⟩ = some (.slice a1'' l1'' c1'') ∧ w'.cell? ⟨w.heap.size + 2, 4, none⟩ = some (.slice a2'' l2'' c2'') ∧ w'.cell? ⟨w.heap.size + 2, 5, none⟩ = some (.slice a3'' l3'' c3'') ∧ w'.cell? ⟨w.heap.size + 2, 6, none⟩ = some (.slice a4'' l4'' c4'')))) (by kernel_rfl) ?_ (fun hHeld => ?_)
      · (try dsimp only)
        with_reducible exact ⟨BA.cells, BB.cells, BD.cells⟩
      refine take_to (i := 0) (d := 50) (v := ?_) rfl rfl (by kernel_rfl) (by kernel_rfl) (by kernel_rfl) (fun _ _ _ h => h) (Or.inl ⟨by kernel_rfl, ?_⟩) (by assumption) ?_
      case refine_2 =>
        intro w hSw
        (try dsimp only at hSw)
        go_simp
        (try with_reducible rfl)
      (try simp only [Act.put, List.setIfInBounds_toArray, List.set_cons_zero, List.set_cons_succ])
      refine take_to (i := 1) (d := 51) (v := ?_) rfl rfl (by kernel_rfl) (by kernel_rfl) (by kernel_rfl) (fun _ _ _ h => h) (Or.inl ⟨by kernel_rfl, ?_⟩) (by assumption) ?_
      case refine_2 =>
        intro w hSw
        (try dsimp only at hSw)
        go_simp
        (try with_reducible rfl)
      (try simp only [Act.put, List.setIfInBounds_toArray, List.set_cons_zero, List.set_cons_succ])
      refine take_to (i := 2) (d := 52) (v := ?_) rfl rfl (by kernel_rfl) (by kernel_rfl) (by kernel_rfl) (fun _ _ _ h => h) (Or.inl ⟨by kernel_rfl, ?_⟩) (by assumption) ?_
      case refine_2 =>
        intro w hSw
        (try dsimp only at hSw)
        go_simp
        (try with_reducible rfl)
      (try simp only [Act.put, List.setIfInBounds_toArray, List.set_cons_zero, List.set_cons_succ])
      refine wpAnyH_ready (rs := [3]) (by kernel_rfl) (by simp) ?_
      refine AllReadyH.cons rfl (fun K hK => ?_) AllReadyH.nil
      go_simp
      (go_at_call_of 15 (Value.agg #[.int .i64 k, .int .u64 b, .string t, .slice a1 l1 c1, .slice a2 l2 c2, .slice a3 l3 c3, .slice a4 l4 c4]); refine (FA.out _).mono ?_; rintro _ w2 ⟨rfl, hb⟩; have BA := BA.below hb; have BB := BB.below hb; have BD := BD.below hb; have HB := bt HB hb; have hL := hL.below hb; have TA := treeB TA hb; have TB := treeB TB hb; clear hb)
      refine hK.out _ _ ?_ (fun hHeld => ?_)
      · (try dsimp only)
        with_reducible exact ⟨BA.cells, BB.cells, BD.cells⟩
      clear hK K
      (try simp only [Act.put, List.setIfInBounds_toArray, List.set_cons_zero, List.set_cons_succ])
      refine take_to (i := 4) (d := 54) (v := ?_) rfl rfl (by kernel_rfl) (by kernel_rfl) (by kernel_rfl) (fun _ _ _ h => h) (Or.inl ⟨by kernel_rfl, ?_⟩) (by assumption) ?_
      case refine_2 =>
        intro w hSw
        (try dsimp only at hSw)
        go_simp
        (try with_reducible rfl)
      (try simp only [Act.put, List.setIfInBounds_toArray, List.set_cons_zero, List.set_cons_succ])
      refine take_to (i := 5) (d := 55) (v := undef) rfl rfl (by kernel_rfl) (by kernel_rfl) (by kernel_rfl) (fun _ _ _ h => h) (Or.inr ⟨by kernel_rfl, rfl⟩) (by assumption) ?_
      (try simp only [Act.put, List.setIfInBounds_toArray, List.set_cons_zero, List.set_cons_succ])
      refine take_to (i := 6) (d := 56) (v := undef) rfl rfl (by kernel_rfl) (by kernel_rfl) (by kernel_rfl) (fun _ _ _ h => h) (Or.inr ⟨by kernel_rfl, rfl⟩) (by assumption) ?_
      (try simp only [Act.put, List.setIfInBounds_toArray, List.set_cons_zero, List.set_cons_succ])
      refine take_to (i := 7) (d := 57) (v := undef) rfl rfl (by kernel_rfl) (by kernel_rfl) (by kernel_rfl) (fun _ _ _ h => h) (Or.inr ⟨by kernel_rfl, rfl⟩) (by assumption) ?_
      (try simp only [Act.put, List.setIfInBounds_toArray, List.set_cons_zero, List.set_cons_succ])
      refine take_to (i := 8) (d := 58) (v := undef) rfl rfl (by kernel_rfl) (by kernel_rfl) (by kernel_rfl) (fun _ _ _ h => h) (Or.inr ⟨by kernel_rfl, rfl⟩) (by assumption) ?_
      (try simp only [Act.put, List.setIfInBounds_toArray, List.set_cons_zero, List.set_cons_succ])
      refine take_to (i := 9) (d := 59) (v := .bool false) rfl rfl (by kernel_rfl) (by kernel_rfl) (by kernel_rfl) (fun _ _ _ h => h) (Or.inl ⟨by kernel_rfl, fun w hSw => by (try dsimp only at hSw); go_simp⟩) (by assumption) ?_
      (try simp only [Act.put, List.setIfInBounds_toArray, List.set_cons_zero, List.set_cons_succ])
      refine take_to (i := 10) (d := 60) (v := .bool false) rfl rfl (by kernel_rfl) (by kernel_rfl) (by kernel_rfl) (fun _ _ _ h => h) (Or.inl ⟨by kernel_rfl, fun w hSw => by (try dsimp only at hSw); go_simp⟩) (by assumption) ?_
      (try simp only [Act.put, List.setIfInBounds_toArray, List.set_cons_zero, List.set_cons_succ])
      refine take_to (i := 11) (d := 61) (v := undef) rfl rfl (by kernel_rfl) (by kernel_rfl) (by kernel_rfl) (fun _ _ _ h => h) (Or.inr ⟨by kernel_rfl, rfl⟩) (by assumption) ?_
      (try simp only [Act.put, List.setIfInBounds_toArray, List.set_cons_zero, List.set_cons_succ])
      refine take_to (i := 12) (d := 62) (v := undef) rfl rfl (by kernel_rfl) (by kernel_rfl) (by kernel_rfl) (fun _ _ _ h => h) (Or.inr ⟨by kernel_rfl, rfl⟩) (by assumption) ?_
      (try simp only [Act.put, List.setIfInBounds_toArray, List.set_cons_zero, List.set_cons_succ])
      refine take_to (i := 13) (d := 63) (v := undef) rfl rfl (by kernel_rfl) (by kernel_rfl) (by kernel_rfl) (fun _ _ _ h => h) (Or.inr ⟨by kernel_rfl, rfl⟩) (by assumption) ?_
      (try simp only [Act.put, List.setIfInBounds_toArray, List.set_cons_zero, List.set_cons_succ])
      refine take_to (i := 14) (d := 64) (v := undef) rfl rfl (by kernel_rfl) (by kernel_rfl) (by kernel_rfl) (fun _ _ _ h => h) (Or.inr ⟨by kernel_rfl, rfl⟩) (by assumption) ?_
      (try simp only [Act.put, List.setIfInBounds_toArray, List.set_cons_zero, List.set_cons_succ])
      refine take_to (i := 15) (d := 65) (v := undef) rfl rfl (by kernel_rfl) (by kernel_rfl) (by kernel_rfl) (fun _ _ _ h => h) (Or.inr ⟨by kernel_rfl, rfl⟩) (by assumption) ?_
      (try simp only [Act.put, List.setIfInBounds_toArray, List.set_cons_zero, List.set_cons_succ])
      refine take_to (i := 16) (d := 66) (v := undef) rfl rfl (by kernel_rfl) (by kernel_rfl) (by kernel_rfl) (fun _ _ _ h => h) (Or.inr ⟨by kernel_rfl, rfl⟩) (by assumption) ?_
      (try simp only [Act.put, List.setIfInBounds_toArray, List.set_cons_zero, List.set_cons_succ])
      refine take_to (i := 17) (d := 67) (v := undef) rfl rfl (by kernel_rfl) (by kernel_rfl) (by kernel_rfl) (fun _ _ _ h => h) (Or.inr ⟨by kernel_rfl, rfl⟩) (by assumption) ?_
      (try simp only [Act.put, List.setIfInBounds_toArray, List.set_cons_zero, List.set_cons_succ])
      refine take_to (i := 18) (d := 68) (v := undef) rfl rfl (by kernel_rfl) (by kernel_rfl) (by kernel_rfl) (fun _ _ _ h => h) (Or.inr ⟨by kernel_rfl, rfl⟩) (by assumption) ?_
      (try simp only [Act.put, List.setIfInBounds_toArray, List.set_cons_zero, List.set_cons_succ])
      refine take_to (i := 19) (d := 69) (v := .bool false) rfl rfl (by kernel_rfl) (by kernel_rfl) (by kernel_rfl) (fun _ _ _ h => h) (Or.inl ⟨by kernel_rfl, fun w hSw => by (try dsimp only at hSw); go_simp⟩) (by assumption) ?_
      (try simp only [Act.put, List.setIfInBounds_toArray, List.set_cons_zero, List.set_cons_succ])
      refine wpAnyH_done (by kernel_rfl) ?_ _
      all_goals
        go_wp2_with (go_at_call 9; refine (awake_any _ hL).mono ?_; rintro _ w2 ⟨rfl, hb⟩)
        go_ret
        exact ⟨rfl, bt HB hb⟩
    | true =>
      cases fB with
      | false =>
        refine wp_region_held_drew (S := (fun w' => (w'.cell? ⟨w.heap.size, 0, none⟩ = some (.int .i64 k) ∧ w'.cell? ⟨w.heap.size, 1, none⟩ = some (.int .u64 b) ∧ w'.cell? ⟨w.heap.size, 2, none⟩ = some (.string t) ∧ w'.cell? ⟨w.heap.size, 3, none⟩ = some (.slice a1 l1 c1) ∧ w'.cell? ⟨w.heap.size, 4, none⟩ = some (.slice a2 l2 c2) ∧ w'.cell? ⟨w.heap.size, 5, none⟩ = some (.slice a3 l3 c3) ∧ w'.cell? ⟨w.heap.size, 6, none⟩ = some (.slice a4 l4 c4)) ∧ (w'.cell? ⟨w.heap.size + 1, 0, none⟩ = some (.int .i64 k') ∧ w'.cell? ⟨w.heap.size + 1, 1, none⟩ = some (.int .u64 b') ∧ w'.cell? ⟨w.heap.size + 1, 2, none⟩ = some (.string t') ∧ w'.cell? ⟨w.heap.size + 1, 3, none⟩ = some (.slice a1' l1' c1') ∧ w'.cell? ⟨w.heap.size + 1, 4, none⟩ = some (.slice a2' l2' c2') ∧ w'.cell? ⟨w.heap.size + 1, 5, none⟩ = some (.slice a3' l3' c3') ∧ w'.cell? ⟨w.heap.size + 1, 6, none⟩ = some (.slice a4' l4' c4')) ∧ (w'.cell? ⟨w.heap.size + 2, 0, none⟩ = some (.int .i64 k'') ∧ w'.cell? ⟨w.heap.size + 2, 1, none⟩ = some (.int .u64 b'') ∧ w'.cell? ⟨w.heap.size + 2, 2, none⟩ = some (.string t'') ∧ w'.cell? ⟨w.heap.size + 2, 3, none⟩ = some (.slice a1'' l1'' c1'') ∧ w'.cell? ⟨w.heap.size + 2, 4, none⟩ = some (.slice a2'' l2'' c2'') ∧ w'.cell? ⟨w.heap.size + 2, 5, none⟩ = some (.slice a3'' l3'' c3'') ∧ w'.cell? ⟨w.heap.size + 2, 6, none⟩ = some (.slice a4'' l4'' c4'')))) (by kernel_rfl) ?_ (fun hHeld => ?_)
        · (try dsimp only)
          with_reducible exact ⟨BA.cells, BB.cells, BD.cells⟩
        refine take_to (i := 0) (d := 50) (v := ?_) rfl rfl (by kernel_rfl) (by kernel_rfl) (by kernel_rfl) (fun _ _ _ h => h) (Or.inl ⟨by kernel_rfl, ?_⟩) (by assumption) ?_
        case refine_2 =>
          intro w hSw
          (try dsimp only at hSw)
          go_simp
          (try with_reducible rfl)
        (try simp only [Act.put, List.setIfInBounds_toArray, List.set_cons_zero, List.set_cons_succ])
        refine take_to (i := 1) (d := 51) (v := ?_) rfl rfl (by kernel_rfl) (by kernel_rfl) (by kernel_rfl) (fun _ _ _ h => h) (Or.inl ⟨by kernel_rfl, ?_⟩) (by assumption) ?_
        case refine_2 =>
          intro w hSw
          (try dsimp only at hSw)
          go_simp
          (try with_reducible rfl)
        (try simp only [Act.put, List.setIfInBounds_toArray, List.set_cons_zero, List.set_cons_succ])
        refine take_to (i := 2) (d := 52) (v := ?_) rfl rfl (by kernel_rfl) (by kernel_rfl) (by kernel_rfl) (fun _ _ _ h => h) (Or.inl ⟨by kernel_rfl, ?_⟩) (by assumption) ?_
        case refine_2 =>
          intro w hSw
          (try dsimp only at hSw)
          go_simp
          (try with_reducible rfl)
        (try simp only [Act.put, List.setIfInBounds_toArray, List.set_cons_zero, List.set_cons_succ])
        refine wpAnyH_ready (rs := [3]) (by kernel_rfl) (by simp) ?_
        refine AllReadyH.cons rfl (fun K hK => ?_) AllReadyH.nil
        go_simp
        (go_at_call_of 15 (Value.agg #[.int .i64 k, .int .u64 b, .string t, .slice a1 l1 c1, .slice a2 l2 c2, .slice a3 l3 c3, .slice a4 l4 c4]); refine (FA.out _).mono ?_; rintro _ w2 ⟨rfl, hb⟩; have BA := BA.below hb; have BB := BB.below hb; have BD := BD.below hb; have HB := bt HB hb; have hL := hL.below hb; have TA := treeB TA hb; have TB := treeB TB hb; clear hb)
        refine hK.out _ _ ?_ (fun hHeld => ?_)
        · (try dsimp only)
          with_reducible exact ⟨BA.cells, BB.cells, BD.cells⟩
        clear hK K
        (try simp only [Act.put, List.setIfInBounds_toArray, List.set_cons_zero, List.set_cons_succ])
        refine take_to (i := 4) (d := 54) (v := ?_) rfl rfl (by kernel_rfl) (by kernel_rfl) (by kernel_rfl) (fun _ _ _ h => h) (Or.inl ⟨by kernel_rfl, ?_⟩) (by assumption) ?_
        case refine_2 =>
          intro w hSw
          (try dsimp only at hSw)
          go_simp
          (try with_reducible rfl)
        (try simp only [Act.put, List.setIfInBounds_toArray, List.set_cons_zero, List.set_cons_succ])
        refine take_to (i := 5) (d := 55) (v := ?_) rfl rfl (by kernel_rfl) (by kernel_rfl) (by kernel_rfl) (fun _ _ _ h => h) (Or.inl ⟨by kernel_rfl, ?_⟩) (by assumption) ?_
        case refine_2 =>
          intro w hSw
          (try dsimp only at hSw)
          go_simp
          (try with_reducible rfl)
        (try simp only [Act.put, List.setIfInBounds_toArray, List.set_cons_zero, List.set_cons_succ])
        refine take_to (i := 6) (d := 56) (v := ?_) rfl rfl (by kernel_rfl) (by kernel_rfl) (by kernel_rfl) (fun _ _ _ h => h) (Or.inl ⟨by kernel_rfl, ?_⟩) (by assumption) ?_
        case refine_2 =>
          intro w hSw
          (try dsimp only at hSw)
          go_simp
          (try with_reducible rfl)
        (try simp only [Act.put, List.setIfInBounds_toArray, List.set_cons_zero, List.set_cons_succ])
        refine take_to (i := 7) (d := 57) (v := ?_) rfl rfl (by kernel_rfl) (by kernel_rfl) (by kernel_rfl) (fun _ _ _ h => h) (Or.inl ⟨by kernel_rfl, ?_⟩) (by assumption) ?_
        case refine_2 =>
          intro w hSw
          (try dsimp only at hSw)
          go_simp
          (try with_reducible rfl)
        (try simp only [Act.put, List.setIfInBounds_toArray, List.set_cons_zero, List.set_cons_succ])
        refine wpAnyH_ready (rs := [8]) (by kernel_rfl) (by simp) ?_
        refine AllReadyH.cons rfl (fun K hK => ?_) AllReadyH.nil
        go_simp
        (go_at_call_of 15 (Value.agg #[.int .i64 k', .int .u64 b', .string t', .slice a1' l1' c1', .slice a2' l2' c2', .slice a3' l3' c3', .slice a4' l4' c4']); refine (FB.out _).mono ?_; rintro _ w2 ⟨rfl, hb⟩; have BA := BA.below hb; have BB := BB.below hb; have BD := BD.below hb; have HB := bt HB hb; have hL := hL.below hb; have TA := treeB TA hb; have TB := treeB TB hb; clear hb)
        refine hK.out _ _ ?_ (fun hHeld => ?_)
        · (try dsimp only)
          with_reducible exact ⟨BA.cells, BB.cells, BD.cells⟩
        clear hK K
        (try simp only [Act.put, List.setIfInBounds_toArray, List.set_cons_zero, List.set_cons_succ])
        refine take_to (i := 9) (d := 59) (v := .bool false) rfl rfl (by kernel_rfl) (by kernel_rfl) (by kernel_rfl) (fun _ _ _ h => h) (Or.inl ⟨by kernel_rfl, fun w hSw => by (try dsimp only at hSw); go_simp⟩) (by assumption) ?_
        (try simp only [Act.put, List.setIfInBounds_toArray, List.set_cons_zero, List.set_cons_succ])
        refine take_to (i := 10) (d := 60) (v := .bool false) rfl rfl (by kernel_rfl) (by kernel_rfl) (by kernel_rfl) (fun _ _ _ h => h) (Or.inl ⟨by kernel_rfl, fun w hSw => by (try dsimp only at hSw); go_simp⟩) (by assumption) ?_
        (try simp only [Act.put, List.setIfInBounds_toArray, List.set_cons_zero, List.set_cons_succ])
        refine take_to (i := 11) (d := 61) (v := undef) rfl rfl (by kernel_rfl) (by kernel_rfl) (by kernel_rfl) (fun _ _ _ h => h) (Or.inr ⟨by kernel_rfl, rfl⟩) (by assumption) ?_
        (try simp only [Act.put, List.setIfInBounds_toArray, List.set_cons_zero, List.set_cons_succ])
        refine take_to (i := 12) (d := 62) (v := undef) rfl rfl (by kernel_rfl) (by kernel_rfl) (by kernel_rfl) (fun _ _ _ h => h) (Or.inr ⟨by kernel_rfl, rfl⟩) (by assumption) ?_
        (try simp only [Act.put, List.setIfInBounds_toArray, List.set_cons_zero, List.set_cons_succ])
        refine take_to (i := 13) (d := 63) (v := undef) rfl rfl (by kernel_rfl) (by kernel_rfl) (by kernel_rfl) (fun _ _ _ h => h) (Or.inr ⟨by kernel_rfl, rfl⟩) (by assumption) ?_
        (try simp only [Act.put, List.setIfInBounds_toArray, List.set_cons_zero, List.set_cons_succ])
        refine take_to (i := 14) (d := 64) (v := undef) rfl rfl (by kernel_rfl) (by kernel_rfl) (by kernel_rfl) (fun _ _ _ h => h) (Or.inr ⟨by kernel_rfl, rfl⟩) (by assumption) ?_
        (try simp only [Act.put, List.setIfInBounds_toArray, List.set_cons_zero, List.set_cons_succ])
        refine take_to (i := 15) (d := 65) (v := undef) rfl rfl (by kernel_rfl) (by kernel_rfl) (by kernel_rfl) (fun _ _ _ h => h) (Or.inr ⟨by kernel_rfl, rfl⟩) (by assumption) ?_
        (try simp only [Act.put, List.setIfInBounds_toArray, List.set_cons_zero, List.set_cons_succ])
        refine take_to (i := 16) (d := 66) (v := undef) rfl rfl (by kernel_rfl) (by kernel_rfl) (by kernel_rfl) (fun _ _ _ h => h) (Or.inr ⟨by kernel_rfl, rfl⟩) (by assumption) ?_
        (try simp only [Act.put, List.setIfInBounds_toArray, List.set_cons_zero, List.set_cons_succ])
        refine take_to (i := 17) (d := 67) (v := undef) rfl rfl (by kernel_rfl) (by kernel_rfl) (by kernel_rfl) (fun _ _ _ h => h) (Or.inr ⟨by kernel_rfl, rfl⟩) (by assumption) ?_
        (try simp only [Act.put, List.setIfInBounds_toArray, List.set_cons_zero, List.set_cons_succ])
        refine take_to (i := 18) (d := 68) (v := undef) rfl rfl (by kernel_rfl) (by kernel_rfl) (by kernel_rfl) (fun _ _ _ h => h) (Or.inr ⟨by kernel_rfl, rfl⟩) (by assumption) ?_
        (try simp only [Act.put, List.setIfInBounds_toArray, List.set_cons_zero, List.set_cons_succ])
        refine take_to (i := 19) (d := 69) (v := .bool false) rfl rfl (by kernel_rfl) (by kernel_rfl) (by kernel_rfl) (fun _ _ _ h => h) (Or.inl ⟨by kernel_rfl, fun w hSw => by (try dsimp only at hSw); go_simp⟩) (by assumption) ?_
        (try simp only [Act.put, List.setIfInBounds_toArray, List.set_cons_zero, List.set_cons_succ])
        refine wpAnyH_done (by kernel_rfl) ?_ _
        all_goals
          go_wp2_with (go_at_call 9; refine (awake_any _ hL).mono ?_; rintro _ w2 ⟨rfl, hb⟩)
          go_ret
          exact ⟨rfl, bt HB hb⟩
      | true =>
        go_region_held3 (fun w' => (w'.cell? ⟨w.heap.size, 0, none⟩ = some (.int .i64 k) ∧ w'.cell? ⟨w.heap.size, 1, none⟩ = some (.int .u64 b) ∧ w'.cell? ⟨w.heap.size, 2, none⟩ = some (.string t) ∧ w'.cell? ⟨w.heap.size, 3, none⟩ = some (.slice a1 l1 c1) ∧ w'.cell? ⟨w.heap.size, 4, none⟩ = some (.slice a2 l2 c2) ∧ w'.cell? ⟨w.heap.size, 5, none⟩ = some (.slice a3 l3 c3) ∧ w'.cell? ⟨w.heap.size, 6, none⟩ = some (.slice a4 l4 c4)) ∧ (w'.cell? ⟨w.heap.size + 1, 0, none⟩ = some (.int .i64 k') ∧ w'.cell? ⟨w.heap.size + 1, 1, none⟩ = some (.int .u64 b') ∧ w'.cell? ⟨w.heap.size + 1, 2, none⟩ = some (.string t') ∧ w'.cell? ⟨w.heap.size + 1, 3, none⟩ = some (.slice a1' l1' c1') ∧ w'.cell? ⟨w.heap.size + 1, 4, none⟩ = some (.slice a2' l2' c2') ∧ w'.cell? ⟨w.heap.size + 1, 5, none⟩ = some (.slice a3' l3' c3') ∧ w'.cell? ⟨w.heap.size + 1, 6, none⟩ = some (.slice a4' l4' c4')) ∧ (w'.cell? ⟨w.heap.size + 2, 0, none⟩ = some (.int .i64 k'') ∧ w'.cell? ⟨w.heap.size + 2, 1, none⟩ = some (.int .u64 b'') ∧ w'.cell? ⟨w.heap.size + 2, 2, none⟩ = some (.string t'') ∧ w'.cell? ⟨w.heap.size + 2, 3, none⟩ = some (.slice a1'' l1'' c1'') ∧ w'.cell? ⟨w.heap.size + 2, 4, none⟩ = some (.slice a2'' l2'' c2'') ∧ w'.cell? ⟨w.heap.size + 2, 5, none⟩ = some (.slice a3'' l3'' c3'') ∧ w'.cell? ⟨w.heap.size + 2, 6, none⟩ = some (.slice a4'' l4'' c4''))) (with_reducible exact ⟨BA.cells, BB.cells, BD.cells⟩)
          (first
            | (go_at_call_of 15 (Value.agg #[.int .i64 k, .int .u64 b, .string t, .slice a1 l1 c1, .slice a2 l2 c2, .slice a3 l3 c3, .slice a4 l4 c4]); refine (FA.out _).mono ?_; rintro _ w2 ⟨rfl, hb⟩; have BA := BA.below hb; have BB := BB.below hb; have BD := BD.below hb; have HB := bt HB hb; have hL := hL.below hb; have TA := treeB TA hb; have TB := treeB TB hb; clear hb)
            | (go_at_call_of 15 (Value.agg #[.int .i64 k', .int .u64 b', .string t', .slice a1' l1' c1', .slice a2' l2' c2', .slice a3' l3' c3', .slice a4' l4' c4']); refine (FB.out _).mono ?_; rintro _ w2 ⟨rfl, hb⟩; have BA := BA.below hb; have BB := BB.below hb; have BD := BD.below hb; have HB := bt HB hb; have hL := hL.below hb; have TA := treeB TA hb; have TB := treeB TB hb; clear hb)
            | (go_at_call_of 13 (Value.agg #[.int .i64 k, .int .u64 b, .string t, .slice a1 l1 c1, .slice a2 l2 c2, .slice a3 l3 c3, .slice a4 l4 c4]); refine (norm_p n ⟨k, b, t, a1, l1, c1, a2, l2, c2, a3, l3, c3, a4, l4, c4⟩ _ TA).mono ?_; rintro _ w2 ⟨x, rfl, hx, tx, hb⟩; have BA := BA.below hb; have BB := BB.below hb; have BD := BD.below hb; have HB := bt HB hb; have hL := hL.below hb; have TA := treeB TA hb; have TB := treeB TB hb; clear hb; have HX := Lib.hid hx; clear hx tx; obtain ⟨xk, xb, xt, xa1, xl1, xc1, xa2, xl2, xc2, xa3, xl3, xc3, xa4, xl4, xc4⟩ := x; simp only [vv])
            | (go_at_call_of 13 (Value.agg #[.int .i64 k', .int .u64 b', .string t', .slice a1' l1' c1', .slice a2' l2' c2', .slice a3' l3' c3', .slice a4' l4' c4']); refine (norm_p n' ⟨k', b', t', a1', l1', c1', a2', l2', c2', a3', l3', c3', a4', l4', c4'⟩ _ TB).mono ?_; rintro _ w2 ⟨y, rfl, hy, ty, hb⟩; have BA := BA.below hb; have BB := BB.below hb; have BD := BD.below hb; have HB := bt HB hb; have hL := hL.below hb; have TA := treeB TA hb; have TB := treeB TB hb; clear hb; have HY := Lib.hid hy; clear hy ty; obtain ⟨yk, yb, yt, ya1, yl1, yc1, ya2, yl2, yc2, ya3, yl3, yc3, ya4, yl4, yc4⟩ := y; simp only [vv])
            | (go_at_call 12; refine (same_any ⟨xk, xb, xt, xa1, xl1, xc1, xa2, xl2, xc2, xa3, xl3, xc3, xa4, xl4, xc4⟩ ⟨yk, yb, yt, ya1, yl1, yc1, ya2, yl2, yc2, ya3, yl3, yc3, ya4, yl4, yc4⟩ _).mono ?_; rintro _ w2 ⟨rfl, hb⟩; rw [show sameB (sc ⟨xk, xb, xt, xa1, xl1, xc1, xa2, xl2, xc2, xa3, xl3, xc3, xa4, xl4, xc4⟩) (sc ⟨yk, yb, yt, ya1, yl1, yc1, ya2, yl2, yc2, ya3, yl3, yc3, ya4, yl4, yc4⟩) = false from (by rw [HX.out, HY.out]; exact (SM.out (by trivial) (by trivial)).trans (by decide))]; have BA := BA.below hb; have BB := BB.below hb; have BD := BD.below hb; have HB := bt HB hb; have hL := hL.below hb; have TA := treeB TA hb; have TB := treeB TB hb; clear hb))
        all_goals
          go_wp2_with (go_at_call 9; refine (awake_any _ hL).mono ?_; rintro _ w2 ⟨rfl, hb⟩)
          go_ret
          exact ⟨rfl, bt HB hb⟩
  · go_wp2_with fail
    have BA := BA.drew
    have BB := BB.drew
    have BD := BD.drew
    have TA := treeB TA (Below.refl _ _).drew
    have TB := treeB TB (Below.refl _ _).drew
    have hL := hL.below (Below.refl _ _).drew
    have HB := HB.drew
    cases fA with
    | false =>
      refine wp_region_held_drew (S := (fun w' => (w'.cell? ⟨w.heap.size, 0, none⟩ = some (.int .i64 k) ∧ w'.cell? ⟨w.heap.size, 1, none⟩ = some (.int .u64 b) ∧ w'.cell? ⟨w.heap.size, 2, none⟩ = some (.string t) ∧ w'.cell? ⟨w.heap.size, 3, none⟩ = some (.slice a1 l1 c1) ∧ w'.cell? ⟨w.heap.size, 4, none⟩ = some (.slice a2 l2 c2) ∧ w'.cell? ⟨w.heap.size, 5, none⟩ = some (.slice a3 l3 c3) ∧ w'.cell? ⟨w.heap.size, 6, none⟩ = some (.slice a4 l4 c4)) ∧ (w'.cell? ⟨w.heap.size + 1, 0, none⟩ = some (.int .i64 k') ∧ w'.cell? ⟨w.heap.size + 1, 1, none⟩ = some (.int .u64 b') ∧ w'.cell? ⟨w.heap.size + 1, 2, none⟩ = some (.string t') ∧ w'.cell? ⟨w.heap.size + 1, 3, none⟩ = some (.slice a1' l1' c1') ∧ w'.cell? ⟨w.heap.size + 1, 4, none⟩ = some (.slice a2' l2' c2') ∧ w'.cell? ⟨w.heap.size + 1, 5, none⟩ = some (.slice a3' l3' c3') ∧ w'.cell? ⟨w.heap.size + 1, 6, none⟩ = some (.slice a4' l4' c4')) ∧ (w'.cell? ⟨w.heap.size + 2, 0, none⟩ = some (.int .i64 k'') ∧ w'.cell? ⟨w.heap.size + 2, 1, none⟩ = some (.int .u64 b'') ∧ w'.cell? ⟨w.heap.size + 2, 2, none⟩ = some (.string t'') ∧ w'.cell? ⟨w.heap.size + 2, 3, none⟩ = some (.slice a1'' l1'' c1'') ∧ w'.cell? ⟨w.heap.size + 2, 4, none⟩ = some (.slice a2'' l2'' c2'') ∧ w'.cell? ⟨w.heap.size + 2, 5, none⟩ = some (.slice a3'' l3'' c3'') ∧ w'.cell? ⟨w.heap.size + 2, 6, none⟩ = some (.slice a4'' l4'' c4'')))) (by kernel_rfl) ?_ (fun hHeld => ?_)
      · (try dsimp only)
        with_reducible exact ⟨BA.cells, BB.cells, BD.cells⟩
      refine take_to (i := 0) (d := 50) (v := ?_) rfl rfl (by kernel_rfl) (by kernel_rfl) (by kernel_rfl) (fun _ _ _ h => h) (Or.inl ⟨by kernel_rfl, ?_⟩) (by assumption) ?_
      case refine_2 =>
        intro w hSw
        (try dsimp only at hSw)
        go_simp
        (try with_reducible rfl)
      (try simp only [Act.put, List.setIfInBounds_toArray, List.set_cons_zero, List.set_cons_succ])
      refine take_to (i := 1) (d := 51) (v := ?_) rfl rfl (by kernel_rfl) (by kernel_rfl) (by kernel_rfl) (fun _ _ _ h => h) (Or.inl ⟨by kernel_rfl, ?_⟩) (by assumption) ?_
      case refine_2 =>
        intro w hSw
        (try dsimp only at hSw)
        go_simp
        (try with_reducible rfl)
      (try simp only [Act.put, List.setIfInBounds_toArray, List.set_cons_zero, List.set_cons_succ])
      refine take_to (i := 2) (d := 52) (v := ?_) rfl rfl (by kernel_rfl) (by kernel_rfl) (by kernel_rfl) (fun _ _ _ h => h) (Or.inl ⟨by kernel_rfl, ?_⟩) (by assumption) ?_
      case refine_2 =>
        intro w hSw
        (try dsimp only at hSw)
        go_simp
        (try with_reducible rfl)
      (try simp only [Act.put, List.setIfInBounds_toArray, List.set_cons_zero, List.set_cons_succ])
      refine wpAnyH_ready (rs := [3]) (by kernel_rfl) (by simp) ?_
      refine AllReadyH.cons rfl (fun K hK => ?_) AllReadyH.nil
      go_simp
      (go_at_call_of 15 (Value.agg #[.int .i64 k, .int .u64 b, .string t, .slice a1 l1 c1, .slice a2 l2 c2, .slice a3 l3 c3, .slice a4 l4 c4]); refine (FA.out _).mono ?_; rintro _ w2 ⟨rfl, hb⟩; have BA := BA.below hb; have BB := BB.below hb; have BD := BD.below hb; have HB := bt HB hb; have hL := hL.below hb; have TA := treeB TA hb; have TB := treeB TB hb; clear hb)
      refine hK.out _ _ ?_ (fun hHeld => ?_)
      · (try dsimp only)
        with_reducible exact ⟨BA.cells, BB.cells, BD.cells⟩
      clear hK K
      (try simp only [Act.put, List.setIfInBounds_toArray, List.set_cons_zero, List.set_cons_succ])
      refine take_to (i := 4) (d := 54) (v := ?_) rfl rfl (by kernel_rfl) (by kernel_rfl) (by kernel_rfl) (fun _ _ _ h => h) (Or.inl ⟨by kernel_rfl, ?_⟩) (by assumption) ?_
      case refine_2 =>
        intro w hSw
        (try dsimp only at hSw)
        go_simp
        (try with_reducible rfl)
      (try simp only [Act.put, List.setIfInBounds_toArray, List.set_cons_zero, List.set_cons_succ])
      refine take_to (i := 5) (d := 55) (v := undef) rfl rfl (by kernel_rfl) (by kernel_rfl) (by kernel_rfl) (fun _ _ _ h => h) (Or.inr ⟨by kernel_rfl, rfl⟩) (by assumption) ?_
      (try simp only [Act.put, List.setIfInBounds_toArray, List.set_cons_zero, List.set_cons_succ])
      refine take_to (i := 6) (d := 56) (v := undef) rfl rfl (by kernel_rfl) (by kernel_rfl) (by kernel_rfl) (fun _ _ _ h => h) (Or.inr ⟨by kernel_rfl, rfl⟩) (by assumption) ?_
      (try simp only [Act.put, List.setIfInBounds_toArray, List.set_cons_zero, List.set_cons_succ])
      refine take_to (i := 7) (d := 57) (v := undef) rfl rfl (by kernel_rfl) (by kernel_rfl) (by kernel_rfl) (fun _ _ _ h => h) (Or.inr ⟨by kernel_rfl, rfl⟩) (by assumption) ?_
      (try simp only [Act.put, List.setIfInBounds_toArray, List.set_cons_zero, List.set_cons_succ])
      refine take_to (i := 8) (d := 58) (v := undef) rfl rfl (by kernel_rfl) (by kernel_rfl) (by kernel_rfl) (fun _ _ _ h => h) (Or.inr ⟨by kernel_rfl, rfl⟩) (by assumption) ?_
      (try simp only [Act.put, List.setIfInBounds_toArray, List.set_cons_zero, List.set_cons_succ])
      refine take_to (i := 9) (d := 59) (v := .bool false) rfl rfl (by kernel_rfl) (by kernel_rfl) (by kernel_rfl) (fun _ _ _ h => h) (Or.inl ⟨by kernel_rfl, fun w hSw => by (try dsimp only at hSw); go_simp⟩) (by assumption) ?_
      (try simp only [Act.put, List.setIfInBounds_toArray, List.set_cons_zero, List.set_cons_succ])
      refine take_to (i := 10) (d := 60) (v := .bool false) rfl rfl (by kernel_rfl) (by kernel_rfl) (by kernel_rfl) (fun _ _ _ h => h) (Or.inl ⟨by kernel_rfl, fun w hSw => by (try dsimp only at hSw); go_simp⟩) (by assumption) ?_
      (try simp only [Act.put, List.setIfInBounds_toArray, List.set_cons_zero, List.set_cons_succ])
      refine take_to (i := 11) (d := 61) (v := undef) rfl rfl (by kernel_rfl) (by kernel_rfl) (by kernel_rfl) (fun _ _ _ h => h) (Or.inr ⟨by kernel_rfl, rfl⟩) (by assumption) ?_
      (try simp only [Act.put, List.setIfInBounds_toArray, List.set_cons_zero, List.set_cons_succ])
      refine take_to (i := 12) (d := 62) (v := undef) rfl rfl (by kernel_rfl) (by kernel_rfl) (by kernel_rfl) (fun _ _ _ h => h) (Or.inr ⟨by kernel_rfl, rfl⟩) (by assumption) ?_
      (try simp only [Act.put, List.setIfInBounds_toArray, List.set_cons_zero, List.set_cons_succ])
      refine take_to (i := 13) (d := 63) (v := undef) rfl rfl (by kernel_rfl) (by kernel_rfl) (by kernel_rfl) (fun _ _ _ h => h) (Or.inr ⟨by kernel_rfl, rfl⟩) (by assumption) ?_
      (try simp only [Act.put, List.setIfInBounds_toArray, List.set_cons_zero, List.set_cons_succ])
      refine take_to (i := 14) (d := 64) (v := undef) rfl rfl (by kernel_rfl) (by kernel_rfl) (by kernel_rfl) (fun _ _ _ h => h) (Or.inr ⟨by kernel_rfl, rfl⟩) (by assumption) ?_
      (try simp only [Act.put, List.setIfInBounds_toArray, List.set_cons_zero, List.set_cons_succ])
      refine take_to (i := 15) (d := 65) (v := undef) rfl rfl (by kernel_rfl) (by kernel_rfl) (by kernel_rfl) (fun _ _ _ h => h) (Or.inr ⟨by kernel_rfl, rfl⟩) (by assumption) ?_
      (try simp only [Act.put, List.setIfInBounds_toArray, List.set_cons_zero, List.set_cons_succ])
      refine take_to (i := 16) (d := 66) (v := undef) rfl rfl (by kernel_rfl) (by kernel_rfl) (by kernel_rfl) (fun _ _ _ h => h) (Or.inr ⟨by kernel_rfl, rfl⟩) (by assumption) ?_
      (try simp only [Act.put, List.setIfInBounds_toArray, List.set_cons_zero, List.set_cons_succ])
      refine take_to (i := 17) (d := 67) (v := undef) rfl rfl (by kernel_rfl) (by kernel_rfl) (by kernel_rfl) (fun _ _ _ h => h) (Or.inr ⟨by kernel_rfl, rfl⟩) (by assumption) ?_
      (try simp only [Act.put, List.setIfInBounds_toArray, List.set_cons_zero, List.set_cons_succ])
      refine take_to (i := 18) (d := 68) (v := undef) rfl rfl (by kernel_rfl) (by kernel_rfl) (by kernel_rfl) (fun _ _ _ h => h) (Or.inr ⟨by kernel_rfl, rfl⟩) (by assumption) ?_
      (try simp only [Act.put, List.setIfInBounds_toArray, List.set_cons_zero, List.set_cons_succ])
      refine take_to (i := 19) (d := 69) (v := .bool false) rfl rfl (by kernel_rfl) (by kernel_rfl) (by kernel_rfl) (fun _ _ _ h => h) (Or.inl ⟨by kernel_rfl, fun w hSw => by (try dsimp only at hSw); go_simp⟩) (by assumption) ?_
      (try simp only [Act.put, List.setIfInBounds_toArray, List.set_cons_zero, List.set_cons_succ])
      refine wpAnyH_done (by kernel_rfl) ?_ _
      all_goals
        go_wp2_with (go_at_call 9; refine (awake_any _ hL).mono ?_; rintro _ w2 ⟨rfl, hb⟩)
        go_ret
        exact ⟨rfl, bt HB hb⟩
    | true =>
      cases fB with
      | false =>
        refine wp_region_held_drew (S := (fun w' => (w'.cell? ⟨w.heap.size, 0, none⟩ = some (.int .i64 k) ∧ w'.cell? ⟨w.heap.size, 1, none⟩ = some (.int .u64 b) ∧ w'.cell? ⟨w.heap.size, 2, none⟩ = some (.string t) ∧ w'.cell? ⟨w.heap.size, 3, none⟩ = some (.slice a1 l1 c1) ∧ w'.cell? ⟨w.heap.size, 4, none⟩ = some (.slice a2 l2 c2) ∧ w'.cell? ⟨w.heap.size, 5, none⟩ = some (.slice a3 l3 c3) ∧ w'.cell? ⟨w.heap.size, 6, none⟩ = some (.slice a4 l4 c4)) ∧ (w'.cell? ⟨w.heap.size + 1, 0, none⟩ = some (.int .i64 k') ∧ w'.cell? ⟨w.heap.size + 1, 1, none⟩ = some (.int .u64 b') ∧ w'.cell? ⟨w.heap.size + 1, 2, none⟩ = some (.string t') ∧ w'.cell? ⟨w.heap.size + 1, 3, none⟩ = some (.slice a1' l1' c1') ∧ w'.cell? ⟨w.heap.size + 1, 4, none⟩ = some (.slice a2' l2' c2') ∧ w'.cell? ⟨w.heap.size + 1, 5, none⟩ = some (.slice a3' l3' c3') ∧ w'.cell? ⟨w.heap.size + 1, 6, none⟩ = some (.slice a4' l4' c4')) ∧ (w'.cell? ⟨w.heap.size + 2, 0, none⟩ = some (.int .i64 k'') ∧ w'.cell? ⟨w.heap.size + 2, 1, none⟩ = some (.int .u64 b'') ∧ w'.cell? ⟨w.heap.size + 2, 2, none⟩ = some (.string t'') ∧ w'.cell? ⟨w.heap.size + 2, 3, none⟩ = some (.slice a1'' l1'' c1'') ∧ w'.cell? ⟨w.heap.size + 2, 4, none⟩ = some (.slice a2'' l2'' c2'') ∧ w'.cell? ⟨w.heap.size + 2, 5, none⟩ = some (.slice a3'' l3'' c3'') ∧ w'.cell? ⟨w.heap.size + 2, 6, none⟩ = some (.slice a4'' l4'' c4'')))) (by kernel_rfl) ?_ (fun hHeld => ?_)
        · (try dsimp only)
          with_reducible exact ⟨BA.cells, BB.cells, BD.cells⟩
        refine take_to (i := 0) (d := 50) (v := ?_) rfl rfl (by kernel_rfl) (by kernel_rfl) (by kernel_rfl) (fun _ _ _ h => h) (Or.inl ⟨by kernel_rfl, ?_⟩) (by assumption) ?_
        case refine_2 =>
          intro w hSw
          (try dsimp only at hSw)
          go_simp
          (try with_reducible rfl)
        (try simp only [Act.put, List.setIfInBounds_toArray, List.set_cons_zero, List.set_cons_succ])
        refine take_to (i := 1) (d := 51) (v := ?_) rfl rfl (by kernel_rfl) (by kernel_rfl) (by kernel_rfl) (fun _ _ _ h => h) (Or.inl ⟨by kernel_rfl, ?_⟩) (by assumption) ?_
        case refine_2 =>
          intro w hSw
          (try dsimp only at hSw)
          go_simp
          (try with_reducible rfl)
        (try simp only [Act.put, List.setIfInBounds_toArray, List.set_cons_zero, List.set_cons_succ])
        refine take_to (i := 2) (d := 52) (v := ?_) rfl rfl (by kernel_rfl) (by kernel_rfl) (by kernel_rfl) (fun _ _ _ h => h) (Or.inl ⟨by kernel_rfl, ?_⟩) (by assumption) ?_
        case refine_2 =>
          intro w hSw
          (try dsimp only at hSw)
          go_simp
          (try with_reducible rfl)
        (try simp only [Act.put, List.setIfInBounds_toArray, List.set_cons_zero, List.set_cons_succ])
        refine wpAnyH_ready (rs := [3]) (by kernel_rfl) (by simp) ?_
        refine AllReadyH.cons rfl (fun K hK => ?_) AllReadyH.nil
        go_simp
        (go_at_call_of 15 (Value.agg #[.int .i64 k, .int .u64 b, .string t, .slice a1 l1 c1, .slice a2 l2 c2, .slice a3 l3 c3, .slice a4 l4 c4]); refine (FA.out _).mono ?_; rintro _ w2 ⟨rfl, hb⟩; have BA := BA.below hb; have BB := BB.below hb; have BD := BD.below hb; have HB := bt HB hb; have hL := hL.below hb; have TA := treeB TA hb; have TB := treeB TB hb; clear hb)
        refine hK.out _ _ ?_ (fun hHeld => ?_)
        · (try dsimp only)
          with_reducible exact ⟨BA.cells, BB.cells, BD.cells⟩
        clear hK K
        (try simp only [Act.put, List.setIfInBounds_toArray, List.set_cons_zero, List.set_cons_succ])
        refine take_to (i := 4) (d := 54) (v := ?_) rfl rfl (by kernel_rfl) (by kernel_rfl) (by kernel_rfl) (fun _ _ _ h => h) (Or.inl ⟨by kernel_rfl, ?_⟩) (by assumption) ?_
        case refine_2 =>
          intro w hSw
          (try dsimp only at hSw)
          go_simp
          (try with_reducible rfl)
        (try simp only [Act.put, List.setIfInBounds_toArray, List.set_cons_zero, List.set_cons_succ])
        refine take_to (i := 5) (d := 55) (v := ?_) rfl rfl (by kernel_rfl) (by kernel_rfl) (by kernel_rfl) (fun _ _ _ h => h) (Or.inl ⟨by kernel_rfl, ?_⟩) (by assumption) ?_
        case refine_2 =>
          intro w hSw
          (try dsimp only at hSw)
          go_simp
          (try with_reducible rfl)
        (try simp only [Act.put, List.setIfInBounds_toArray, List.set_cons_zero, List.set_cons_succ])
        refine take_to (i := 6) (d := 56) (v := ?_) rfl rfl (by kernel_rfl) (by kernel_rfl) (by kernel_rfl) (fun _ _ _ h => h) (Or.inl ⟨by kernel_rfl, ?_⟩) (by assumption) ?_
        case refine_2 =>
          intro w hSw
          (try dsimp only at hSw)
          go_simp
          (try with_reducible rfl)
        (try simp only [Act.put, List.setIfInBounds_toArray, List.set_cons_zero, List.set_cons_succ])
        refine take_to (i := 7) (d := 57) (v := ?_) rfl rfl (by kernel_rfl) (by kernel_rfl) (by kernel_rfl) (fun _ _ _ h => h) (Or.inl ⟨by kernel_rfl, ?_⟩) (by assumption) ?_
        case refine_2 =>
          intro w hSw
          (try dsimp only at hSw)
          go_simp
          (try with_reducible rfl)
        (try simp only [Act.put, List.setIfInBounds_toArray, List.set_cons_zero, List.set_cons_succ])
        refine wpAnyH_ready (rs := [8]) (by kernel_rfl) (by simp) ?_
        refine AllReadyH.cons rfl (fun K hK => ?_) AllReadyH.nil
        go_simp
        (go_at_call_of 15 (Value.agg #[.int .i64 k', .int .u64 b', .string t', .slice a1' l1' c1', .slice a2' l2' c2', .slice a3' l3' c3', .slice a4' l4' c4']); refine (FB.out _).mono ?_; rintro _ w2 ⟨rfl, hb⟩; have BA := BA.below hb; have BB := BB.below hb; have BD := BD.below hb; have HB := bt HB hb; have hL := hL.below hb; have TA := treeB TA hb; have TB := treeB TB hb; clear hb)
        refine hK.out _ _ ?_ (fun hHeld => ?_)
        · (try dsimp only)
          with_reducible exact ⟨BA.cells, BB.cells, BD.cells⟩
        clear hK K
        (try simp only [Act.put, List.setIfInBounds_toArray, List.set_cons_zero, List.set_cons_succ])
        refine take_to (i := 9) (d := 59) (v := .bool false) rfl rfl (by kernel_rfl) (by kernel_rfl) (by kernel_rfl) (fun _ _ _ h => h) (Or.inl ⟨by kernel_rfl, fun w hSw => by (try dsimp only at hSw); go_simp⟩) (by assumption) ?_
        (try simp only [Act.put, List.setIfInBounds_toArray, List.set_cons_zero, List.set_cons_succ])
        refine take_to (i := 10) (d := 60) (v := .bool false) rfl rfl (by kernel_rfl) (by kernel_rfl) (by kernel_rfl) (fun _ _ _ h => h) (Or.inl ⟨by kernel_rfl, fun w hSw => by (try dsimp only at hSw); go_simp⟩) (by assumption) ?_
        (try simp only [Act.put, List.setIfInBounds_toArray, List.set_cons_zero, List.set_cons_succ])
        refine take_to (i := 11) (d := 61) (v := undef) rfl rfl (by kernel_rfl) (by kernel_rfl) (by kernel_rfl) (fun _ _ _ h => h) (Or.inr ⟨by kernel_rfl, rfl⟩) (by assumption) ?_
        (try simp only [Act.put, List.setIfInBounds_toArray, List.set_cons_zero, List.set_cons_succ])
        refine take_to (i := 12) (d := 62) (v := undef) rfl rfl (by kernel_rfl) (by kernel_rfl) (by kernel_rfl) (fun _ _ _ h => h) (Or.inr ⟨by kernel_rfl, rfl⟩) (by assumption) ?_
        (try simp only [Act.put, List.setIfInBounds_toArray, List.set_cons_zero, List.set_cons_succ])
        refine take_to (i := 13) (d := 63) (v := undef) rfl rfl (by kernel_rfl) (by kernel_rfl) (by kernel_rfl) (fun _ _ _ h => h) (Or.inr ⟨by kernel_rfl, rfl⟩) (by assumption) ?_
        (try simp only [Act.put, List.setIfInBounds_toArray, List.set_cons_zero, List.set_cons_succ])
        refine take_to (i := 14) (d := 64) (v := undef) rfl rfl (by kernel_rfl) (by kernel_rfl) (by kernel_rfl) (fun _ _ _ h => h) (Or.inr ⟨by kernel_rfl, rfl⟩) (by assumption) ?_
        (try simp only [Act.put, List.setIfInBounds_toArray, List.set_cons_zero, List.set_cons_succ])
        refine take_to (i := 15) (d := 65) (v := undef) rfl rfl (by kernel_rfl) (by kernel_rfl) (by kernel_rfl) (fun _ _ _ h => h) (Or.inr ⟨by kernel_rfl, rfl⟩) (by assumption) ?_
        (try simp only [Act.put, List.setIfInBounds_toArray, List.set_cons_zero, List.set_cons_succ])
        refine take_to (i := 16) (d := 66) (v := undef) rfl rfl (by kernel_rfl) (by kernel_rfl) (by kernel_rfl) (fun _ _ _ h => h) (Or.inr ⟨by kernel_rfl, rfl⟩) (by assumption) ?_
        (try simp only [Act.put, List.setIfInBounds_toArray, List.set_cons_zero, List.set_cons_succ])
        refine take_to (i := 17) (d := 67) (v := undef) rfl rfl (by kernel_rfl) (by kernel_rfl) (by kernel_rfl) (fun _ _ _ h => h) (Or.inr ⟨by kernel_rfl, rfl⟩) (by assumption) ?_
        (try simp only [Act.put, List.setIfInBounds_toArray, List.set_cons_zero, List.set_cons_succ])
        refine take_to (i := 18) (d := 68) (v := undef) rfl rfl (by kernel_rfl) (by kernel_rfl) (by kernel_rfl) (fun _ _ _ h => h) (Or.inr ⟨by kernel_rfl, rfl⟩) (by assumption) ?_
        (try simp only [Act.put, List.setIfInBounds_toArray, List.set_cons_zero, List.set_cons_succ])
        refine take_to (i := 19) (d := 69) (v := .bool false) rfl rfl (by kernel_rfl) (by kernel_rfl) (by kernel_rfl) (fun _ _ _ h => h) (Or.inl ⟨by kernel_rfl, fun w hSw => by (try dsimp only at hSw); go_simp⟩) (by assumption) ?_
        (try simp only [Act.put, List.setIfInBounds_toArray, List.set_cons_zero, List.set_cons_succ])
        refine wpAnyH_done (by kernel_rfl) ?_ _
        all_goals
          go_wp2_with (go_at_call 9; refine (awake_any _ hL).mono ?_; rintro _ w2 ⟨rfl, hb⟩)
          go_ret
          exact ⟨rfl, bt HB hb⟩
      | true =>
        go_region_held3 (fun w' => (w'.cell? ⟨w.heap.size, 0, none⟩ = some (.int .i64 k) ∧ w'.cell? ⟨w.heap.size, 1, none⟩ = some (.int .u64 b) ∧ w'.cell? ⟨w.heap.size, 2, none⟩ = some (.string t) ∧ w'.cell? ⟨w.heap.size, 3, none⟩ = some (.slice a1 l1 c1) ∧ w'.cell? ⟨w.heap.size, 4, none⟩ = some (.slice a2 l2 c2) ∧ w'.cell? ⟨w.heap.size, 5, none⟩ = some (.slice a3 l3 c3) ∧ w'.cell? ⟨w.heap.size, 6, none⟩ = some (.slice a4 l4 c4)) ∧ (w'.cell? ⟨w.heap.size + 1, 0, none⟩ = some (.int .i64 k') ∧ w'.cell? ⟨w.heap.size + 1, 1, none⟩ = some (.int .u64 b') ∧ w'.cell? ⟨w.heap.size + 1, 2, none⟩ = some (.string t') ∧ w'.cell? ⟨w.heap.size + 1, 3, none⟩ = some (.slice a1' l1' c1') ∧ w'.cell? ⟨w.heap.size + 1, 4, none⟩ = some (.slice a2' l2' c2') ∧ w'.cell? ⟨w.heap.size + 1, 5, none⟩ = some (.slice a3' l3' c3') ∧ w'.cell? ⟨w.heap.size + 1, 6, none⟩ = some (.slice a4' l4' c4')) ∧ (w'.cell? ⟨w.heap.size + 2, 0, none⟩ = some (.int .i64 k'') ∧ w'.cell? ⟨w.heap.size + 2, 1, none⟩ = some (.int .u64 b'') ∧ w'.cell? ⟨w.heap.size + 2, 2, none⟩ = some (.string t'') ∧ w'.cell? ⟨w.heap.size + 2, 3, none⟩ = some (.slice a1'' l1'' c1'') ∧ w'.cell? ⟨w.heap.size + 2, 4, none⟩ = some (.slice a2'' l2'' c2'') ∧ w'.cell? ⟨w.heap.size + 2, 5, none⟩ = some (.slice a3'' l3'' c3'') ∧ w'.cell? ⟨w.heap.size + 2, 6, none⟩ = some (.slice a4'' l4'' c4''))) (with_reducible exact ⟨BA.cells, BB.cells, BD.cells⟩)
          (first
            | (go_at_call_of 15 (Value.agg #[.int .i64 k, .int .u64 b, .string t, .slice a1 l1 c1, .slice a2 l2 c2, .slice a3 l3 c3, .slice a4 l4 c4]); refine (FA.out _).mono ?_; rintro _ w2 ⟨rfl, hb⟩; have BA := BA.below hb; have BB := BB.below hb; have BD := BD.below hb; have HB := bt HB hb; have hL := hL.below hb; have TA := treeB TA hb; have TB := treeB TB hb; clear hb)
            | (go_at_call_of 15 (Value.agg #[.int .i64 k', .int .u64 b', .string t', .slice a1' l1' c1', .slice a2' l2' c2', .slice a3' l3' c3', .slice a4' l4' c4']); refine (FB.out _).mono ?_; rintro _ w2 ⟨rfl, hb⟩; have BA := BA.below hb; have BB := BB.below hb; have BD := BD.below hb; have HB := bt HB hb; have hL := hL.below hb; have TA := treeB TA hb; have TB := treeB TB hb; clear hb)
            | (go_at_call_of 13 (Value.agg #[.int .i64 k, .int .u64 b, .string t, .slice a1 l1 c1, .slice a2 l2 c2, .slice a3 l3 c3, .slice a4 l4 c4]); refine (norm_p n ⟨k, b, t, a1, l1, c1, a2, l2, c2, a3, l3, c3, a4, l4, c4⟩ _ TA).mono ?_; rintro _ w2 ⟨x, rfl, hx, tx, hb⟩; have BA := BA.below hb; have BB := BB.below hb; have BD := BD.below hb; have HB := bt HB hb; have hL := hL.below hb; have TA := treeB TA hb; have TB := treeB TB hb; clear hb; have HX := Lib.hid hx; clear hx tx; obtain ⟨xk, xb, xt, xa1, xl1, xc1, xa2, xl2, xc2, xa3, xl3, xc3, xa4, xl4, xc4⟩ := x; simp only [vv])
            | (go_at_call_of 13 (Value.agg #[.int .i64 k', .int .u64 b', .string t', .slice a1' l1' c1', .slice a2' l2' c2', .slice a3' l3' c3', .slice a4' l4' c4']); refine (norm_p n' ⟨k', b', t', a1', l1', c1', a2', l2', c2', a3', l3', c3', a4', l4', c4'⟩ _ TB).mono ?_; rintro _ w2 ⟨y, rfl, hy, ty, hb⟩; have BA := BA.below hb; have BB := BB.below hb; have BD := BD.below hb; have HB := bt HB hb; have hL := hL.below hb; have TA := treeB TA hb; have TB := treeB TB hb; clear hb; have HY := Lib.hid hy; clear hy ty; obtain ⟨yk, yb, yt, ya1, yl1, yc1, ya2, yl2, yc2, ya3, yl3, yc3, ya4, yl4, yc4⟩ := y; simp only [vv])
            | (go_at_call 12; refine (same_any ⟨xk, xb, xt, xa1, xl1, xc1, xa2, xl2, xc2, xa3, xl3, xc3, xa4, xl4, xc4⟩ ⟨yk, yb, yt, ya1, yl1, yc1, ya2, yl2, yc2, ya3, yl3, yc3, ya4, yl4, yc4⟩ _).mono ?_; rintro _ w2 ⟨rfl, hb⟩; rw [show sameB (sc ⟨xk, xb, xt, xa1, xl1, xc1, xa2, xl2, xc2, xa3, xl3, xc3, xa4, xl4, xc4⟩) (sc ⟨yk, yb, yt, ya1, yl1, yc1, ya2, yl2, yc2, ya3, yl3, yc3, ya4, yl4, yc4⟩) = false from (by rw [HX.out, HY.out]; exact (SM.out (by trivial) (by trivial)).trans (by decide))]; have BA := BA.below hb; have BB := BB.below hb; have BD := BD.below hb; have HB := bt HB hb; have hL := hL.below hb; have TA := treeB TA hb; have TB := treeB TB hb; clear hb))
        all_goals
          go_wp2_with (go_at_call 9; refine (awake_any _ hL).mono ?_; rintro _ w2 ⟨rfl, hb⟩)
          go_ret
          exact ⟨rfl, bt HB hb⟩
  · go_wp2_with fail
    have BA := BA.drew
    have BB := BB.drew
    have BD := BD.drew
    have TA := treeB TA (Below.refl _ _).drew
    have TB := treeB TB (Below.refl _ _).drew
    have hL := hL.below (Below.refl _ _).drew
    have HB := HB.drew
    cases fA with
    | false =>
      refine wp_region_held_drew (S := (fun w' => (w'.cell? ⟨w.heap.size, 0, none⟩ = some (.int .i64 k) ∧ w'.cell? ⟨w.heap.size, 1, none⟩ = some (.int .u64 b) ∧ w'.cell? ⟨w.heap.size, 2, none⟩ = some (.string t) ∧ w'.cell? ⟨w.heap.size, 3, none⟩ = some (.slice a1 l1 c1) ∧ w'.cell? ⟨w.heap.size, 4, none⟩ = some (.slice a2 l2 c2) ∧ w'.cell? ⟨w.heap.size, 5, none⟩ = some (.slice a3 l3 c3) ∧ w'.cell? ⟨w.heap.size, 6, none⟩ = some (.slice a4 l4 c4)) ∧ (w'.cell? ⟨w.heap.size + 1, 0, none⟩ = some (.int .i64 k') ∧ w'.cell? ⟨w.heap.size + 1, 1, none⟩ = some (.int .u64 b') ∧ w'.cell? ⟨w.heap.size + 1, 2, none⟩ = some (.string t') ∧ w'.cell? ⟨w.heap.size + 1, 3, none⟩ = some (.slice a1' l1' c1') ∧ w'.cell? ⟨w.heap.size + 1, 4, none⟩ = some (.slice a2' l2' c2') ∧ w'.cell? ⟨w.heap.size + 1, 5, none⟩ = some (.slice a3' l3' c3') ∧ w'.cell? ⟨w.heap.size + 1, 6, none⟩ = some (.slice a4' l4' c4')) ∧ (w'.cell? ⟨w.heap.size + 2, 0, none⟩ = some (.int .i64 k'') ∧ w'.cell? ⟨w.heap.size + 2, 1, none⟩ = some (.int .u64 b'') ∧ w'.cell? ⟨w.heap.size + 2, 2, none⟩ = some (.string t'') ∧ w'.cell? ⟨w.heap.size + 2, 3, none⟩ = some (.slice a1'' l1'' c1'') ∧ w'.cell? ⟨w.heap.size + 2, 4, none⟩ = some (.slice a2'' l2'' c2'') ∧ w'.cell? ⟨w.heap.size + 2, 5, none⟩ = some (.slice a3'' l3'' c3'') ∧ w'.cell? ⟨w.heap.size + 2, 6, none⟩ = some (.slice a4'' l4'' c4'')))) (by kernel_rfl) ?_ (fun hHeld => ?_)
      · (try dsimp only)
        with_reducible exact ⟨BA.cells, BB.cells, BD.cells⟩
      refine take_to (i := 0) (d := 50) (v := ?_) rfl rfl (by kernel_rfl) (by kernel_rfl) (by kernel_rfl) (fun _ _ _ h => h) (Or.inl ⟨by kernel_rfl, ?_⟩) (by assumption) ?_
      case refine_2 =>
        intro w hSw
        (try dsimp only at hSw)
        go_simp
        (try with_reducible rfl)
      (try simp only [Act.put, List.setIfInBounds_toArray, List.set_cons_zero, List.set_cons_succ])
      refine take_to (i := 1) (d := 51) (v := ?_) rfl rfl (by kernel_rfl) (by kernel_rfl) (by kernel_rfl) (fun _ _ _ h => h) (Or.inl ⟨by kernel_rfl, ?_⟩) (by assumption) ?_
      case refine_2 =>
        intro w hSw
        (try dsimp only at hSw)
        go_simp
        (try with_reducible rfl)
      (try simp only [Act.put, List.setIfInBounds_toArray, List.set_cons_zero, List.set_cons_succ])
      refine take_to (i := 2) (d := 52) (v := ?_) rfl rfl (by kernel_rfl) (by kernel_rfl) (by kernel_rfl) (fun _ _ _ h => h) (Or.inl ⟨by kernel_rfl, ?_⟩) (by assumption) ?_
      case refine_2 =>
        intro w hSw
        (try dsimp only at hSw)
        go_simp
        (try with_reducible rfl)
      (try simp only [Act.put, List.setIfInBounds_toArray, List.set_cons_zero, List.set_cons_succ])
      refine wpAnyH_ready (rs := [3]) (by kernel_rfl) (by simp) ?_
      refine AllReadyH.cons rfl (fun K hK => ?_) AllReadyH.nil
      go_simp
      (go_at_call_of 15 (Value.agg #[.int .i64 k, .int .u64 b, .string t, .slice a1 l1 c1, .slice a2 l2 c2, .slice a3 l3 c3, .slice a4 l4 c4]); refine (FA.out _).mono ?_; rintro _ w2 ⟨rfl, hb⟩; have BA := BA.below hb; have BB := BB.below hb; have BD := BD.below hb; have HB := bt HB hb; have hL := hL.below hb; have TA := treeB TA hb; have TB := treeB TB hb; clear hb)
      refine hK.out _ _ ?_ (fun hHeld => ?_)
      · (try dsimp only)
        with_reducible exact ⟨BA.cells, BB.cells, BD.cells⟩
      clear hK K
      (try simp only [Act.put, List.setIfInBounds_toArray, List.set_cons_zero, List.set_cons_succ])
      refine take_to (i := 4) (d := 54) (v := ?_) rfl rfl (by kernel_rfl) (by kernel_rfl) (by kernel_rfl) (fun _ _ _ h => h) (Or.inl ⟨by kernel_rfl, ?_⟩) (by assumption) ?_
      case refine_2 =>
        intro w hSw
        (try dsimp only at hSw)
        go_simp
        (try with_reducible rfl)
      (try simp only [Act.put, List.setIfInBounds_toArray, List.set_cons_zero, List.set_cons_succ])
      refine take_to (i := 5) (d := 55) (v := undef) rfl rfl (by kernel_rfl) (by kernel_rfl) (by kernel_rfl) (fun _ _ _ h => h) (Or.inr ⟨by kernel_rfl, rfl⟩) (by assumption) ?_
      (try simp only [Act.put, List.setIfInBounds_toArray, List.set_cons_zero, List.set_cons_succ])
      refine take_to (i := 6) (d := 56) (v := undef) rfl rfl (by kernel_rfl) (by kernel_rfl) (by kernel_rfl) (fun _ _ _ h => h) (Or.inr ⟨by kernel_rfl, rfl⟩) (by assumption) ?_
      (try simp only [Act.put, List.setIfInBounds_toArray, List.set_cons_zero, List.set_cons_succ])
      refine take_to (i := 7) (d := 57) (v := undef) rfl rfl (by kernel_rfl) (by kernel_rfl) (by kernel_rfl) (fun _ _ _ h => h) (Or.inr ⟨by kernel_rfl, rfl⟩) (by assumption) ?_
      (try simp only [Act.put, List.setIfInBounds_toArray, List.set_cons_zero, List.set_cons_succ])
      refine take_to (i := 8) (d := 58) (v := undef) rfl rfl (by kernel_rfl) (by kernel_rfl) (by kernel_rfl) (fun _ _ _ h => h) (Or.inr ⟨by kernel_rfl, rfl⟩) (by assumption) ?_
      (try simp only [Act.put, List.setIfInBounds_toArray, List.set_cons_zero, List.set_cons_succ])
      refine take_to (i := 9) (d := 59) (v := .bool false) rfl rfl (by kernel_rfl) (by kernel_rfl) (by kernel_rfl) (fun _ _ _ h => h) (Or.inl ⟨by kernel_rfl, fun w hSw => by (try dsimp only at hSw); go_simp⟩) (by assumption) ?_
      (try simp only [Act.put, List.setIfInBounds_toArray, List.set_cons_zero, List.set_cons_succ])
      refine take_to (i := 10) (d := 60) (v := .bool false) rfl rfl (by kernel_rfl) (by kernel_rfl) (by kernel_rfl) (fun _ _ _ h => h) (Or.inl ⟨by kernel_rfl, fun w hSw => by (try dsimp only at hSw); go_simp⟩) (by assumption) ?_
      (try simp only [Act.put, List.setIfInBounds_toArray, List.set_cons_zero, List.set_cons_succ])
      refine take_to (i := 11) (d := 61) (v := undef) rfl rfl (by kernel_rfl) (by kernel_rfl) (by kernel_rfl) (fun _ _ _ h => h) (Or.inr ⟨by kernel_rfl, rfl⟩) (by assumption) ?_
      (try simp only [Act.put, List.setIfInBounds_toArray, List.set_cons_zero, List.set_cons_succ])
      refine take_to (i := 12) (d := 62) (v := undef) rfl rfl (by kernel_rfl) (by kernel_rfl) (by kernel_rfl) (fun _ _ _ h => h) (Or.inr ⟨by kernel_rfl, rfl⟩) (by assumption) ?_
      (try simp only [Act.put, List.setIfInBounds_toArray, List.set_cons_zero, List.set_cons_succ])
      refine take_to (i := 13) (d := 63) (v := undef) rfl rfl (by kernel_rfl) (by kernel_rfl) (by kernel_rfl) (fun _ _ _ h => h) (Or.inr ⟨by kernel_rfl, rfl⟩) (by assumption) ?_
      (try simp only [Act.put, List.setIfInBounds_toArray, List.set_cons_zero, List.set_cons_succ])
      refine take_to (i := 14) (d := 64) (v := undef) rfl rfl (by kernel_rfl) (by kernel_rfl) (by kernel_rfl) (fun _ _ _ h => h) (Or.inr ⟨by kernel_rfl, rfl⟩) (by assumption) ?_
      (try simp only [Act.put, List.setIfInBounds_toArray, List.set_cons_zero, List.set_cons_succ])
      refine take_to (i := 15) (d := 65) (v := undef) rfl rfl (by kernel_rfl) (by kernel_rfl) (by kernel_rfl) (fun _ _ _ h => h) (Or.inr ⟨by kernel_rfl, rfl⟩) (by assumption) ?_
      (try simp only [Act.put, List.setIfInBounds_toArray, List.set_cons_zero, List.set_cons_succ])
      refine take_to (i := 16) (d := 66) (v := undef) rfl rfl (by kernel_rfl) (by kernel_rfl) (by kernel_rfl) (fun _ _ _ h => h) (Or.inr ⟨by kernel_rfl, rfl⟩) (by assumption) ?_
      (try simp only [Act.put, List.setIfInBounds_toArray, List.set_cons_zero, List.set_cons_succ])
      refine take_to (i := 17) (d := 67) (v := undef) rfl rfl (by kernel_rfl) (by kernel_rfl) (by kernel_rfl) (fun _ _ _ h => h) (Or.inr ⟨by kernel_rfl, rfl⟩) (by assumption) ?_
      (try simp only [Act.put, List.setIfInBounds_toArray, List.set_cons_zero, List.set_cons_succ])
      refine take_to (i := 18) (d := 68) (v := undef) rfl rfl (by kernel_rfl) (by kernel_rfl) (by kernel_rfl) (fun _ _ _ h => h) (Or.inr ⟨by kernel_rfl, rfl⟩) (by assumption) ?_
      (try simp only [Act.put, List.setIfInBounds_toArray, List.set_cons_zero, List.set_cons_succ])
      refine take_to (i := 19) (d := 69) (v := .bool false) rfl rfl (by kernel_rfl) (by kernel_rfl) (by kernel_rfl) (fun _ _ _ h => h) (Or.inl ⟨by kernel_rfl, fun w hSw => by (try dsimp only at hSw); go_simp⟩) (by assumption) ?_
      (try simp only [Act.put, List.setIfInBounds_toArray, List.set_cons_zero, List.set_cons_succ])
      refine wpAnyH_done (by kernel_rfl) ?_ _
      all_goals
        go_wp2_with (go_at_call 9; refine (awake_any _ hL).mono ?_; rintro _ w2 ⟨rfl, hb⟩)
        go_ret
        exact ⟨rfl, bt HB hb⟩
    | true =>
      cases fB with
      | false =>
        refine wp_region_held_drew (S := (fun w' => (w'.cell? ⟨w.heap.size, 0, none⟩ = some (.int .i64 k) ∧ w'.cell? ⟨w.heap.size, 1, none⟩ = some (.int .u64 b) ∧ w'.cell? ⟨w.heap.size, 2, none⟩ = some (.string t) ∧ w'.cell? ⟨w.heap.size, 3, none⟩ = some (.slice a1 l1 c1) ∧ w'.cell? ⟨w.heap.size, 4, none⟩ = some (.slice a2 l2 c2) ∧ w'.cell? ⟨w.heap.size, 5, none⟩ = some (.slice a3 l3 c3) ∧ w'.cell? ⟨w.heap.size, 6, none⟩ = some (.slice a4 l4 c4)) ∧ (w'.cell? ⟨w.heap.size + 1, 0, none⟩ = some (.int .i64 k') ∧ w'.cell? ⟨w.heap.size + 1, 1, none⟩ = some (.int .u64 b') ∧ w'.cell? ⟨w.heap.size + 1, 2, none⟩ = some (.string t') ∧ w'.cell? ⟨w.heap.size + 1, 3, none⟩ = some (.slice a1' l1' c1') ∧ w'.cell? ⟨w.heap.size + 1, 4, none⟩ = some (.slice a2' l2' c2') ∧ w'.cell? ⟨w.heap.size + 1, 5, none⟩ = some (.slice a3' l3' c3') ∧ w'.cell? ⟨w.heap.size + 1, 6, none⟩ = some (.slice a4' l4' c4')) ∧ (w'.cell? ⟨w.heap.size + 2, 0, none⟩ = some (.int .i64 k'') ∧ w'.cell? ⟨w.heap.size + 2, 1, none⟩ = some (.int .u64 b'') ∧ w'.cell? ⟨w.heap.size + 2, 2, none⟩ = some (.string t'') ∧ w'.cell? ⟨w.heap.size + 2, 3, none⟩ = some (.slice a1'' l1'' c1'') ∧ w'.cell? ⟨w.heap.size + 2, 4, none⟩ = some (.slice a2'' l2'' c2'') ∧ w'.cell? ⟨w.heap.size + 2, 5, none⟩ = some (.slice a3'' l3'' c3'') ∧ w'.cell? ⟨w.heap.size + 2, 6, none⟩ = some (.slice a4'' l4'' c4'')))) (by kernel_rfl) ?_ (fun hHeld => ?_)
        · (try dsimp only)
          with_reducible exact ⟨BA.cells, BB.cells, BD.cells⟩
        refine take_to (i := 0) (d := 50) (v := ?_) rfl rfl (by kernel_rfl) (by kernel_rfl) (by kernel_rfl) (fun _ _ _ h => h) (Or.inl ⟨by kernel_rfl, ?_⟩) (by assumption) ?_
        case refine_2 =>
          intro w hSw
          (try dsimp only at hSw)
          go_simp
          (try with_reducible rfl)
        (try simp only [Act.put, List.setIfInBounds_toArray, List.set_cons_zero, List.set_cons_succ])
        refine take_to (i := 1) (d := 51) (v := ?_) rfl rfl (by kernel_rfl) (by kernel_rfl) (by kernel_rfl) (fun _ _ _ h => h) (Or.inl ⟨by kernel_rfl, ?_⟩) (by assumption) ?_
        case refine_2 =>
          intro w hSw
          (try dsimp only at hSw)
          go_simp
          (try with_reducible rfl)
        (try simp only [Act.put, List.setIfInBounds_toArray, List.set_cons_zero, List.set_cons_succ])
        refine take_to (i := 2) (d := 52) (v := ?_) rfl rfl (by kernel_rfl) (by kernel_rfl) (by kernel_rfl) (fun _ _ _ h => h) (Or.inl ⟨by kernel_rfl, ?_⟩) (by assumption) ?_
        case refine_2 =>
          intro w hSw
          (try dsimp only at hSw)
          go_simp
          (try with_reducible rfl)
        (try simp only [Act.put, List.setIfInBounds_toArray, List.set_cons_zero, List.set_cons_succ])
        refine wpAnyH_ready (rs := [3]) (by kernel_rfl) (by simp) ?_
        refine AllReadyH.cons rfl (fun K hK => ?_) AllReadyH.nil
        go_simp
        (go_at_call_of 15 (Value.agg #[.int .i64 k, .int .u64 b, .string t, .slice a1 l1 c1, .slice a2 l2 c2, .slice a3 l3 c3, .slice a4 l4 c4]); refine (FA.out _).mono ?_; rintro _ w2 ⟨rfl, hb⟩; have BA := BA.below hb; have BB := BB.below hb; have BD := BD.below hb; have HB := bt HB hb; have hL := hL.below hb; have TA := treeB TA hb; have TB := treeB TB hb; clear hb)
        refine hK.out _ _ ?_ (fun hHeld => ?_)
        · (try dsimp only)
          with_reducible exact ⟨BA.cells, BB.cells, BD.cells⟩
        clear hK K
        (try simp only [Act.put, List.setIfInBounds_toArray, List.set_cons_zero, List.set_cons_succ])
        refine take_to (i := 4) (d := 54) (v := ?_) rfl rfl (by kernel_rfl) (by kernel_rfl) (by kernel_rfl) (fun _ _ _ h => h) (Or.inl ⟨by kernel_rfl, ?_⟩) (by assumption) ?_
        case refine_2 =>
          intro w hSw
          (try dsimp only at hSw)
          go_simp
          (try with_reducible rfl)
        (try simp only [Act.put, List.setIfInBounds_toArray, List.set_cons_zero, List.set_cons_succ])
        refine take_to (i := 5) (d := 55) (v := ?_) rfl rfl (by kernel_rfl) (by kernel_rfl) (by kernel_rfl) (fun _ _ _ h => h) (Or.inl ⟨by kernel_rfl, ?_⟩) (by assumption) ?_
        case refine_2 =>
          intro w hSw
          (try dsimp only at hSw)
          go_simp
          (try with_reducible rfl)
        (try simp only [Act.put, List.setIfInBounds_toArray, List.set_cons_zero, List.set_cons_succ])
        refine take_to (i := 6) (d := 56) (v := ?_) rfl rfl (by kernel_rfl) (by kernel_rfl) (by kernel_rfl) (fun _ _ _ h => h) (Or.inl ⟨by kernel_rfl, ?_⟩) (by assumption) ?_
        case refine_2 =>
          intro w hSw
          (try dsimp only at hSw)
          go_simp
          (try with_reducible rfl)
        (try simp only [Act.put, List.setIfInBounds_toArray, List.set_cons_zero, List.set_cons_succ])
        refine take_to (i := 7) (d := 57) (v := ?_) rfl rfl (by kernel_rfl) (by kernel_rfl) (by kernel_rfl) (fun _ _ _ h => h) (Or.inl ⟨by kernel_rfl, ?_⟩) (by assumption) ?_
        case refine_2 =>
          intro w hSw
          (try dsimp only at hSw)
          go_simp
          (try with_reducible rfl)
        (try simp only [Act.put, List.setIfInBounds_toArray, List.set_cons_zero, List.set_cons_succ])
        refine wpAnyH_ready (rs := [8]) (by kernel_rfl) (by simp) ?_
        refine AllReadyH.cons rfl (fun K hK => ?_) AllReadyH.nil
        go_simp
        (go_at_call_of 15 (Value.agg #[.int .i64 k', .int .u64 b', .string t', .slice a1' l1' c1', .slice a2' l2' c2', .slice a3' l3' c3', .slice a4' l4' c4']); refine (FB.out _).mono ?_; rintro _ w2 ⟨rfl, hb⟩; have BA := BA.below hb; have BB := BB.below hb; have BD := BD.below hb; have HB := bt HB hb; have hL := hL.below hb; have TA := treeB TA hb; have TB := treeB TB hb; clear hb)
        refine hK.out _ _ ?_ (fun hHeld => ?_)
        · (try dsimp only)
          with_reducible exact ⟨BA.cells, BB.cells, BD.cells⟩
        clear hK K
        (try simp only [Act.put, List.setIfInBounds_toArray, List.set_cons_zero, List.set_cons_succ])
        refine take_to (i := 9) (d := 59) (v := .bool false) rfl rfl (by kernel_rfl) (by kernel_rfl) (by kernel_rfl) (fun _ _ _ h => h) (Or.inl ⟨by kernel_rfl, fun w hSw => by (try dsimp only at hSw); go_simp⟩) (by assumption) ?_
        (try simp only [Act.put, List.setIfInBounds_toArray, List.set_cons_zero, List.set_cons_succ])
        refine take_to (i := 10) (d := 60) (v := .bool false) rfl rfl (by kernel_rfl) (by kernel_rfl) (by kernel_rfl) (fun _ _ _ h => h) (Or.inl ⟨by kernel_rfl, fun w hSw => by (try dsimp only at hSw); go_simp⟩) (by assumption) ?_
        (try simp only [Act.put, List.setIfInBounds_toArray, List.set_cons_zero, List.set_cons_succ])
        refine take_to (i := 11) (d := 61) (v := undef) rfl rfl (by kernel_rfl) (by kernel_rfl) (by kernel_rfl) (fun _ _ _ h => h) (Or.inr ⟨by kernel_rfl, rfl⟩) (by assumption) ?_
        (try simp only [Act.put, List.setIfInBounds_toArray, List.set_cons_zero, List.set_cons_succ])
        refine take_to (i := 12) (d := 62) (v := undef) rfl rfl (by kernel_rfl) (by kernel_rfl) (by kernel_rfl) (fun _ _ _ h => h) (Or.inr ⟨by kernel_rfl, rfl⟩) (by assumption) ?_
        (try simp only [Act.put, List.setIfInBounds_toArray, List.set_cons_zero, List.set_cons_succ])
        refine take_to (i := 13) (d := 63) (v := undef) rfl rfl (by kernel_rfl) (by kernel_rfl) (by kernel_rfl) (fun _ _ _ h => h) (Or.inr ⟨by kernel_rfl, rfl⟩) (by assumption) ?_
        (try simp only [Act.put, List.setIfInBounds_toArray, List.set_cons_zero, List.set_cons_succ])
        refine take_to (i := 14) (d := 64) (v := undef) rfl rfl (by kernel_rfl) (by kernel_rfl) (by kernel_rfl) (fun _ _ _ h => h) (Or.inr ⟨by kernel_rfl, rfl⟩) (by assumption) ?_
        (try simp only [Act.put, List.setIfInBounds_toArray, List.set_cons_zero, List.set_cons_succ])
        refine take_to (i := 15) (d := 65) (v := undef) rfl rfl (by kernel_rfl) (by kernel_rfl) (by kernel_rfl) (fun _ _ _ h => h) (Or.inr ⟨by kernel_rfl, rfl⟩) (by assumption) ?_
        (try simp only [Act.put, List.setIfInBounds_toArray, List.set_cons_zero, List.set_cons_succ])
        refine take_to (i := 16) (d := 66) (v := undef) rfl rfl (by kernel_rfl) (by kernel_rfl) (by kernel_rfl) (fun _ _ _ h => h) (Or.inr ⟨by kernel_rfl, rfl⟩) (by assumption) ?_
        (try simp only [Act.put, List.setIfInBounds_toArray, List.set_cons_zero, List.set_cons_succ])
        refine take_to (i := 17) (d := 67) (v := undef) rfl rfl (by kernel_rfl) (by kernel_rfl) (by kernel_rfl) (fun _ _ _ h => h) (Or.inr ⟨by kernel_rfl, rfl⟩) (by assumption) ?_
        (try simp only [Act.put, List.setIfInBounds_toArray, List.set_cons_zero, List.set_cons_succ])
        refine take_to (i := 18) (d := 68) (v := undef) rfl rfl (by kernel_rfl) (by kernel_rfl) (by kernel_rfl) (fun _ _ _ h => h) (Or.inr ⟨by kernel_rfl, rfl⟩) (by assumption) ?_
        (try simp only [Act.put, List.setIfInBounds_toArray, List.set_cons_zero, List.set_cons_succ])
        refine take_to (i := 19) (d := 69) (v := .bool false) rfl rfl (by kernel_rfl) (by kernel_rfl) (by kernel_rfl) (fun _ _ _ h => h) (Or.inl ⟨by kernel_rfl, fun w hSw => by (try dsimp only at hSw); go_simp⟩) (by assumption) ?_
        (try simp only [Act.put, List.setIfInBounds_toArray, List.set_cons_zero, List.set_cons_succ])
        refine wpAnyH_done (by kernel_rfl) ?_ _
        all_goals
          go_wp2_with (go_at_call 9; refine (awake_any _ hL).mono ?_; rintro _ w2 ⟨rfl, hb⟩)
          go_ret
          exact ⟨rfl, bt HB hb⟩
      | true =>
        go_region_held3 (fun w' => (w'.cell? ⟨w.heap.size, 0, none⟩ = some (.int .i64 k) ∧ w'.cell? ⟨w.heap.size, 1, none⟩ = some (.int .u64 b) ∧ w'.cell? ⟨w.heap.size, 2, none⟩ = some (.string t) ∧ w'.cell? ⟨w.heap.size, 3, none⟩ = some (.slice a1 l1 c1) ∧ w'.cell? ⟨w.heap.size, 4, none⟩ = some (.slice a2 l2 c2) ∧ w'.cell? ⟨w.heap.size, 5, none⟩ = some (.slice a3 l3 c3) ∧ w'.cell? ⟨w.heap.size, 6, none⟩ = some (.slice a4 l4 c4)) ∧ (w'.cell? ⟨w.heap.size + 1, 0, none⟩ = some (.int .i64 k') ∧ w'.cell? ⟨w.heap.size + 1, 1, none⟩ = some (.int .u64 b') ∧ w'.cell? ⟨w.heap.size + 1, 2, none⟩ = some (.string t') ∧ w'.cell? ⟨w.heap.size + 1, 3, none⟩ = some (.slice a1' l1' c1') ∧ w'.cell? ⟨w.heap.size + 1, 4, none⟩ = some (.slice a2' l2' c2') ∧ w'.cell? ⟨w.heap.size + 1, 5, none⟩ = some (.slice a3' l3' c3') ∧ w'.cell? ⟨w.heap.size + 1, 6, none⟩ = some (.slice a4' l4' c4')) ∧ (w'.cell? ⟨w.heap.size + 2, 0, none⟩ = some (.int .i64 k'') ∧ w'.cell? ⟨w.heap.size + 2, 1, none⟩ = some (.int .u64 b'') ∧ w'.cell? ⟨w.heap.size + 2, 2, none⟩ = some (.string t'') ∧ w'.cell? ⟨w.heap.size + 2, 3, none⟩ = some (.slice a1'' l1'' c1'') ∧ w'.cell? ⟨w.heap.size + 2, 4, none⟩ = some (.slice a2'' l2'' c2'') ∧ w'.cell? ⟨w.heap.size + 2, 5, none⟩ = some (.slice a3'' l3'' c3'') ∧ w'.cell? ⟨w.heap.size + 2, 6, none⟩ = some (.slice a4'' l4'' c4''))) (with_reducible exact ⟨BA.cells, BB.cells, BD.cells⟩)
          (first
            | (go_at_call_of 15 (Value.agg #[.int .i64 k, .int .u64 b, .string t, .slice a1 l1 c1, .slice a2 l2 c2, .slice a3 l3 c3, .slice a4 l4 c4]); refine (FA.out _).mono ?_; rintro _ w2 ⟨rfl, hb⟩; have BA := BA.below hb; have BB := BB.below hb; have BD := BD.below hb; have HB := bt HB hb; have hL := hL.below hb; have TA := treeB TA hb; have TB := treeB TB hb; clear hb)
            | (go_at_call_of 15 (Value.agg #[.int .i64 k', .int .u64 b', .string t', .slice a1' l1' c1', .slice a2' l2' c2', .slice a3' l3' c3', .slice a4' l4' c4']); refine (FB.out _).mono ?_; rintro _ w2 ⟨rfl, hb⟩; have BA := BA.below hb; have BB := BB.below hb; have BD := BD.below hb; have HB := bt HB hb; have hL := hL.below hb; have TA := treeB TA hb; have TB := treeB TB hb; clear hb)
            | (go_at_call_of 13 (Value.agg #[.int .i64 k, .int .u64 b, .string t, .slice a1 l1 c1, .slice a2 l2 c2, .slice a3 l3 c3, .slice a4 l4 c4]); refine (norm_p n ⟨k, b, t, a1, l1, c1, a2, l2, c2, a3, l3, c3, a4, l4, c4⟩ _ TA).mono ?_; rintro _ w2 ⟨x, rfl, hx, tx, hb⟩; have BA := BA.below hb; have BB := BB.below hb; have BD := BD.below hb; have HB := bt HB hb; have hL := hL.below hb; have TA := treeB TA hb; have TB := treeB TB hb; clear hb; have HX := Lib.hid hx; clear hx tx; obtain ⟨xk, xb, xt, xa1, xl1, xc1, xa2, xl2, xc2, xa3, xl3, xc3, xa4, xl4, xc4⟩ := x; simp only [vv])
            | (go_at_call_of 13 (Value.agg #[.int .i64 k', .int .u64 b', .string t', .slice a1' l1' c1', .slice a2' l2' c2', .slice a3' l3' c3', .slice a4' l4' c4']); refine (norm_p n' ⟨k', b', t', a1', l1', c1', a2', l2', c2', a3', l3', c3', a4', l4', c4'⟩ _ TB).mono ?_; rintro _ w2 ⟨y, rfl, hy, ty, hb⟩; have BA := BA.below hb; have BB := BB.below hb; have BD := BD.below hb; have HB := bt HB hb; have hL := hL.below hb; have TA := treeB TA hb; have TB := treeB TB hb; clear hb; have HY := Lib.hid hy; clear hy ty; obtain ⟨yk, yb, yt, ya1, yl1, yc1, ya2, yl2, yc2, ya3, yl3, yc3, ya4, yl4, yc4⟩ := y; simp only [vv])
            | (go_at_call 12; refine (same_any ⟨xk, xb, xt, xa1, xl1, xc1, xa2, xl2, xc2, xa3, xl3, xc3, xa4, xl4, xc4⟩ ⟨yk, yb, yt, ya1, yl1, yc1, ya2, yl2, yc2, ya3, yl3, yc3, ya4, yl4, yc4⟩ _).mono ?_; rintro _ w2 ⟨rfl, hb⟩; rw [show sameB (sc ⟨xk, xb, xt, xa1, xl1, xc1, xa2, xl2, xc2, xa3, xl3, xc3, xa4, xl4, xc4⟩) (sc ⟨yk, yb, yt, ya1, yl1, yc1, ya2, yl2, yc2, ya3, yl3, yc3, ya4, yl4, yc4⟩) = true from (by rw [HX.out, HY.out]; exact (SM.out (by trivial) (by trivial)).trans (by decide))]; have BA := BA.below hb; have BB := BB.below hb; have BD := BD.below hb; have HB := bt HB hb; have hL := hL.below hb; have TA := treeB TA hb; have TB := treeB TB hb; clear hb))
        all_goals
          go_wp2_with (go_at_call 9; refine (awake_any _ hL).mono ?_; rintro _ w2 ⟨rfl, hb⟩)
          go_ret
          exact ⟨rfl, bt HB hb⟩
  · go_wp2_with fail
    have BA := BA.drew
    have BB := BB.drew
    have BD := BD.drew
    have TA := treeB TA (Below.refl _ _).drew
    have TB := treeB TB (Below.refl _ _).drew
    have hL := hL.below (Below.refl _ _).drew
    have HB := HB.drew
    cases fA with
    | false =>
      refine wp_region_held_drew (S := (fun w' => (w'.cell? ⟨w.heap.size, 0, none⟩ = some (.int .i64 k) ∧ w'.cell? ⟨w.heap.size, 1, none⟩ = some (.int .u64 b) ∧ w'.cell? ⟨w.heap.size, 2, none⟩ = some (.string t) ∧ w'.cell? ⟨w.heap.size, 3, none⟩ = some (.slice a1 l1 c1) ∧ w'.cell? ⟨w.heap.size, 4, none⟩ = some (.slice a2 l2 c2) ∧ w'.cell? ⟨w.heap.size, 5, none⟩ = some (.slice a3 l3 c3) ∧ w'.cell? ⟨w.heap.size, 6, none⟩ = some (.slice a4 l4 c4)) ∧ (w'.cell? ⟨w.heap.size + 1, 0, none⟩ = some (.int .i64 k') ∧ w'.cell? ⟨w.heap.size + 1, 1, none⟩ = some (.int .u64 b') ∧ w'.cell? ⟨w.heap.size + 1, 2, none⟩ = some (.string t') ∧ w'.cell? ⟨w.heap.size + 1, 3, none⟩ = some (.slice a1' l1' c1') ∧ w'.cell? ⟨w.heap.size + 1, 4, none⟩ = some (.slice a2' l2' c2') ∧ w'.cell? ⟨w.heap.size + 1, 5, none⟩ = some (.slice a3' l3' c3') ∧ w'.cell? ⟨w.heap.size + 1, 6, none⟩ = some (.slice a4' l4' c4')) ∧ (w'.cell? ⟨w.heap.size + 2, 0, none⟩ = some (.int .i64 k'') ∧ w'.cell? ⟨w.heap.size + 2, 1, none⟩ = some (.int .u64 b'') ∧ w'.cell? ⟨w.heap.size + 2, 2, none⟩ = some (.string t'') ∧ w'.cell? ⟨w.heap.size + 2, 3, none⟩ = some (.slice a1'' l1'' c1'') ∧ w'.cell? ⟨w.heap.size + 2, 4, none⟩ = some (.slice a2'' l2'' c2'') ∧ w'.cell? ⟨w.heap.size + 2, 5, none⟩ = some (.slice a3'' l3'' c3'') ∧ w'.cell? ⟨w.heap.size + 2, 6, none⟩ = some (.slice a4'' l4'' c4'')))) (by kernel_rfl) ?_ (fun hHeld => ?_)
      · (try dsimp only)
        with_reducible exact ⟨BA.cells, BB.cells, BD.cells⟩
      refine take_to (i := 0) (d := 50) (v := ?_) rfl rfl (by kernel_rfl) (by kernel_rfl) (by kernel_rfl) (fun _ _ _ h => h) (Or.inl ⟨by kernel_rfl, ?_⟩) (by assumption) ?_
      case refine_2 =>
        intro w hSw
        (try dsimp only at hSw)
        go_simp
        (try with_reducible rfl)
      (try simp only [Act.put, List.setIfInBounds_toArray, List.set_cons_zero, List.set_cons_succ])
      refine take_to (i := 1) (d := 51) (v := ?_) rfl rfl (by kernel_rfl) (by kernel_rfl) (by kernel_rfl) (fun _ _ _ h => h) (Or.inl ⟨by kernel_rfl, ?_⟩) (by assumption) ?_
      case refine_2 =>
        intro w hSw
        (try dsimp only at hSw)
        go_simp
        (try with_reducible rfl)
      (try simp only [Act.put, List.setIfInBounds_toArray, List.set_cons_zero, List.set_cons_succ])
      refine take_to (i := 2) (d := 52) (v := ?_) rfl rfl (by kernel_rfl) (by kernel_rfl) (by kernel_rfl) (fun _ _ _ h => h) (Or.inl ⟨by kernel_rfl, ?_⟩) (by assumption) ?_
      case refine_2 =>
        intro w hSw
        (try dsimp only at hSw)
        go_simp
        (try with_reducible rfl)
      (try simp only [Act.put, List.setIfInBounds_toArray, List.set_cons_zero, List.set_cons_succ])
      refine wpAnyH_ready (rs := [3]) (by kernel_rfl) (by simp) ?_
      refine AllReadyH.cons rfl (fun K hK => ?_) AllReadyH.nil
      go_simp
      (go_at_call_of 15 (Value.agg #[.int .i64 k, .int .u64 b, .string t, .slice a1 l1 c1, .slice a2 l2 c2, .slice a3 l3 c3, .slice a4 l4 c4]); refine (FA.out _).mono ?_; rintro _ w2 ⟨rfl, hb⟩; have BA := BA.below hb; have BB := BB.below hb; have BD := BD.below hb; have HB := bt HB hb; have hL := hL.below hb; have TA := treeB TA hb; have TB := treeB TB hb; clear hb)
      refine hK.out _ _ ?_ (fun hHeld => ?_)
      · (try dsimp only)
        with_reducible exact ⟨BA.cells, BB.cells, BD.cells⟩
      clear hK K
      (try simp only [Act.put, List.setIfInBounds_toArray, List.set_cons_zero, List.set_cons_succ])
      refine take_to (i := 4) (d := 54) (v := ?_) rfl rfl (by kernel_rfl) (by kernel_rfl) (by kernel_rfl) (fun _ _ _ h => h) (Or.inl ⟨by kernel_rfl, ?_⟩) (by assumption) ?_
      case refine_2 =>
        intro w hSw
        (try dsimp only at hSw)
        go_simp
        (try with_reducible rfl)
      (try simp only [Act.put, List.setIfInBounds_toArray, List.set_cons_zero, List.set_cons_succ])
      refine take_to (i := 5) (d := 55) (v := undef) rfl rfl (by kernel_rfl) (by kernel_rfl) (by kernel_rfl) (fun _ _ _ h => h) (Or.inr ⟨by kernel_rfl, rfl⟩) (by assumption) ?_
      (try simp only [Act.put, List.setIfInBounds_toArray, List.set_cons_zero, List.set_cons_succ])
      refine take_to (i := 6) (d := 56) (v := undef) rfl rfl (by kernel_rfl) (by kernel_rfl) (by kernel_rfl) (fun _ _ _ h => h) (Or.inr ⟨by kernel_rfl, rfl⟩) (by assumption) ?_
      (try simp only [Act.put, List.setIfInBounds_toArray, List.set_cons_zero, List.set_cons_succ])
      refine take_to (i := 7) (d := 57) (v := undef) rfl rfl (by kernel_rfl) (by kernel_rfl) (by kernel_rfl) (fun _ _ _ h => h) (Or.inr ⟨by kernel_rfl, rfl⟩) (by assumption) ?_
      (try simp only [Act.put, List.setIfInBounds_toArray, List.set_cons_zero, List.set_cons_succ])
      refine take_to (i := 8) (d := 58) (v := undef) rfl rfl (by kernel_rfl) (by kernel_rfl) (by kernel_rfl) (fun _ _ _ h => h) (Or.inr ⟨by kernel_rfl, rfl⟩) (by assumption) ?_
      (try simp only [Act.put, List.setIfInBounds_toArray, List.set_cons_zero, List.set_cons_succ])
      refine take_to (i := 9) (d := 59) (v := .bool false) rfl rfl (by kernel_rfl) (by kernel_rfl) (by kernel_rfl) (fun _ _ _ h => h) (Or.inl ⟨by kernel_rfl, fun w hSw => by (try dsimp only at hSw); go_simp⟩) (by assumption) ?_
      (try simp only [Act.put, List.setIfInBounds_toArray, List.set_cons_zero, List.set_cons_succ])
      refine take_to (i := 10) (d := 60) (v := .bool false) rfl rfl (by kernel_rfl) (by kernel_rfl) (by kernel_rfl) (fun _ _ _ h => h) (Or.inl ⟨by kernel_rfl, fun w hSw => by (try dsimp only at hSw); go_simp⟩) (by assumption) ?_
      (try simp only [Act.put, List.setIfInBounds_toArray, List.set_cons_zero, List.set_cons_succ])
      refine take_to (i := 11) (d := 61) (v := undef) rfl rfl (by kernel_rfl) (by kernel_rfl) (by kernel_rfl) (fun _ _ _ h => h) (Or.inr ⟨by kernel_rfl, rfl⟩) (by assumption) ?_
      (try simp only [Act.put, List.setIfInBounds_toArray, List.set_cons_zero, List.set_cons_succ])
      refine take_to (i := 12) (d := 62) (v := undef) rfl rfl (by kernel_rfl) (by kernel_rfl) (by kernel_rfl) (fun _ _ _ h => h) (Or.inr ⟨by kernel_rfl, rfl⟩) (by assumption) ?_
      (try simp only [Act.put, List.setIfInBounds_toArray, List.set_cons_zero, List.set_cons_succ])
      refine take_to (i := 13) (d := 63) (v := undef) rfl rfl (by kernel_rfl) (by kernel_rfl) (by kernel_rfl) (fun _ _ _ h => h) (Or.inr ⟨by kernel_rfl, rfl⟩) (by assumption) ?_
      (try simp only [Act.put, List.setIfInBounds_toArray, List.set_cons_zero, List.set_cons_succ])
      refine take_to (i := 14) (d := 64) (v := undef) rfl rfl (by kernel_rfl) (by kernel_rfl) (by kernel_rfl) (fun _ _ _ h => h) (Or.inr ⟨by kernel_rfl, rfl⟩) (by assumption) ?_
      (try simp only [Act.put, List.setIfInBounds_toArray, List.set_cons_zero, List.set_cons_succ])
      refine take_to (i := 15) (d := 65) (v := undef) rfl rfl (by kernel_rfl) (by kernel_rfl) (by kernel_rfl) (fun _ _ _ h => h) (Or.inr ⟨by kernel_rfl, rfl⟩) (by assumption) ?_
      (try simp only [Act.put, List.setIfInBounds_toArray, List.set_cons_zero, List.set_cons_succ])
      refine take_to (i := 16) (d := 66) (v := undef) rfl rfl (by kernel_rfl) (by kernel_rfl) (by kernel_rfl) (fun _ _ _ h => h) (Or.inr ⟨by kernel_rfl, rfl⟩) (by assumption) ?_
      (try simp only [Act.put, List.setIfInBounds_toArray, List.set_cons_zero, List.set_cons_succ])
      refine take_to (i := 17) (d := 67) (v := undef) rfl rfl (by kernel_rfl) (by kernel_rfl) (by kernel_rfl) (fun _ _ _ h => h) (Or.inr ⟨by kernel_rfl, rfl⟩) (by assumption) ?_
      (try simp only [Act.put, List.setIfInBounds_toArray, List.set_cons_zero, List.set_cons_succ])
      refine take_to (i := 18) (d := 68) (v := undef) rfl rfl (by kernel_rfl) (by kernel_rfl) (by kernel_rfl) (fun _ _ _ h => h) (Or.inr ⟨by kernel_rfl, rfl⟩) (by assumption) ?_
      (try simp only [Act.put, List.setIfInBounds_toArray, List.set_cons_zero, List.set_cons_succ])
      refine take_to (i := 19) (d := 69) (v := .bool false) rfl rfl (by kernel_rfl) (by kernel_rfl) (by kernel_rfl) (fun _ _ _ h => h) (Or.inl ⟨by kernel_rfl, fun w hSw => by (try dsimp only at hSw); go_simp⟩) (by assumption) ?_
      (try simp only [Act.put, List.setIfInBounds_toArray, List.set_cons_zero, List.set_cons_succ])
      refine wpAnyH_done (by kernel_rfl) ?_ _
      all_goals
        go_wp2_with (go_at_call 9; refine (awake_any _ hL).mono ?_; rintro _ w2 ⟨rfl, hb⟩)
        go_ret
        exact ⟨rfl, bt HB hb⟩
    | true =>
      cases fB with
      | false =>
        refine wp_region_held_drew (S := (fun w' => (w'.cell? ⟨w.heap.size, 0, none⟩ = some (.int .i64 k) ∧ w'.cell? ⟨w.heap.size, 1, none⟩ = some (.int .u64 b) ∧ w'.cell? ⟨w.heap.size, 2, none⟩ = some (.string t) ∧ w'.cell? ⟨w.heap.size, 3, none⟩ = some (.slice a1 l1 c1) ∧ w'.cell? ⟨w.heap.size, 4, none⟩ = some (.slice a2 l2 c2) ∧ w'.cell? ⟨w.heap.size, 5, none⟩ = some (.slice a3 l3 c3) ∧ w'.cell? ⟨w.heap.size, 6, none⟩ = some (.slice a4 l4 c4)) ∧ (w'.cell? ⟨w.heap.size + 1, 0, none⟩ = some (.int .i64 k') ∧ w'.cell? ⟨w.heap.size + 1, 1, none⟩ = some (.int .u64 b') ∧ w'.cell? ⟨w.heap.size + 1, 2, none⟩ = some (.string t') ∧ w'.cell? ⟨w.heap.size + 1, 3, none⟩ = some (.slice a1' l1' c1') ∧ w'.cell? ⟨w.heap.size + 1, 4, none⟩ = some (.slice a2' l2' c2') ∧ w'.cell? ⟨w.heap.size + 1, 5, none⟩ = some (.slice a3' l3' c3') ∧ w'.cell? ⟨w.heap.size + 1, 6, none⟩ = some (.slice a4' l4' c4')) ∧ (w'.cell? ⟨w.heap.size + 2, 0, none⟩ = some (.int .i64 k'') ∧ w'.cell? ⟨w.heap.size + 2, 1, none⟩ = some (.int .u64 b'') ∧ w'.cell? ⟨w.heap.size + 2, 2, none⟩ = some (.string t'') ∧ w'.cell? ⟨w.heap.size + 2, 3, none⟩ = some (.slice a1'' l1'' c1'') ∧ w'.cell? ⟨w.heap.size + 2, 4, none⟩ = some (.slice a2'' l2'' c2'') ∧ w'.cell? ⟨w.heap.size + 2, 5, none⟩ = some (.slice a3'' l3'' c3'') ∧ w'.cell? ⟨w.heap.size + 2, 6, none⟩ = some (.slice a4'' l4'' c4'')))) (by kernel_rfl) ?_ (fun hHeld => ?_)
        · (try dsimp only)
          with_reducible exact ⟨BA.cells, BB.cells, BD.cells⟩
        refine take_to (i := 0) (d := 50) (v := ?_) rfl rfl (by kernel_rfl) (by kernel_rfl) (by kernel_rfl) (fun _ _ _ h => h) (Or.inl ⟨by kernel_rfl, ?_⟩) (by assumption) ?_
        case refine_2 =>
          intro w hSw
          (try dsimp only at hSw)
          go_simp
          (try with_reducible rfl)
        (try simp only [Act.put, List.setIfInBounds_toArray, List.set_cons_zero, List.set_cons_succ])
        refine take_to (i := 1) (d := 51) (v := ?_) rfl rfl (by kernel_rfl) (by kernel_rfl) (by kernel_rfl) (fun _ _ _ h => h) (Or.inl ⟨by kernel_rfl, ?_⟩) (by assumption) ?_
        case refine_2 =>
          intro w hSw
          (try dsimp only at hSw)
          go_simp
          (try with_reducible rfl)
        (try simp only [Act.put, List.setIfInBounds_toArray, List.set_cons_zero, List.set_cons_succ])
        refine take_to (i := 2) (d := 52) (v := ?_) rfl rfl (by kernel_rfl) (by kernel_rfl) (by kernel_rfl) (fun _ _ _ h => h) (Or.inl ⟨by kernel_rfl, ?_⟩) (by assumption) ?_
        case refine_2 =>
          intro w hSw
          (try dsimp only at hSw)
          go_simp
          (try with_reducible rfl)
        (try simp only [Act.put, List.setIfInBounds_toArray, List.set_cons_zero, List.set_cons_succ])
        refine wpAnyH_ready (rs := [3]) (by kernel_rfl) (by simp) ?_
        refine AllReadyH.cons rfl (fun K hK => ?_) AllReadyH.nil
        go_simp
        (go_at_call_of 15 (Value.agg #[.int .i64 k, .int .u64 b, .string t, .slice a1 l1 c1, .slice a2 l2 c2, .slice a3 l3 c3, .slice a4 l4 c4]); refine (FA.out _).mono ?_; rintro _ w2 ⟨rfl, hb⟩; have BA := BA.below hb; have BB := BB.below hb; have BD := BD.below hb; have HB := bt HB hb; have hL := hL.below hb; have TA := treeB TA hb; have TB := treeB TB hb; clear hb)
        refine hK.out _ _ ?_ (fun hHeld => ?_)
        · (try dsimp only)
          with_reducible exact ⟨BA.cells, BB.cells, BD.cells⟩
        clear hK K
        (try simp only [Act.put, List.setIfInBounds_toArray, List.set_cons_zero, List.set_cons_succ])
        refine take_to (i := 4) (d := 54) (v := ?_) rfl rfl (by kernel_rfl) (by kernel_rfl) (by kernel_rfl) (fun _ _ _ h => h) (Or.inl ⟨by kernel_rfl, ?_⟩) (by assumption) ?_
        case refine_2 =>
          intro w hSw
          (try dsimp only at hSw)
          go_simp
          (try with_reducible rfl)
        (try simp only [Act.put, List.setIfInBounds_toArray, List.set_cons_zero, List.set_cons_succ])
        refine take_to (i := 5) (d := 55) (v := ?_) rfl rfl (by kernel_rfl) (by kernel_rfl) (by kernel_rfl) (fun _ _ _ h => h) (Or.inl ⟨by kernel_rfl, ?_⟩) (by assumption) ?_
        case refine_2 =>
          intro w hSw
          (try dsimp only at hSw)
          go_simp
          (try with_reducible rfl)
        (try simp only [Act.put, List.setIfInBounds_toArray, List.set_cons_zero, List.set_cons_succ])
        refine take_to (i := 6) (d := 56) (v := ?_) rfl rfl (by kernel_rfl) (by kernel_rfl) (by kernel_rfl) (fun _ _ _ h => h) (Or.inl ⟨by kernel_rfl, ?_⟩) (by assumption) ?_
        case refine_2 =>
          intro w hSw
          (try dsimp only at hSw)
          go_simp
          (try with_reducible rfl)
        (try simp only [Act.put, List.setIfInBounds_toArray, List.set_cons_zero, List.set_cons_succ])
        refine take_to (i := 7) (d := 57) (v := ?_) rfl rfl (by kernel_rfl) (by kernel_rfl) (by kernel_rfl) (fun _ _ _ h => h) (Or.inl ⟨by kernel_rfl, ?_⟩) (by assumption) ?_
        case refine_2 =>
          intro w hSw
          (try dsimp only at hSw)
          go_simp
          (try with_reducible rfl)
        (try simp only [Act.put, List.setIfInBounds_toArray, List.set_cons_zero, List.set_cons_succ])
        refine wpAnyH_ready (rs := [8]) (by kernel_rfl) (by simp) ?_
        refine AllReadyH.cons rfl (fun K hK => ?_) AllReadyH.nil
        go_simp
        (go_at_call_of 15 (Value.agg #[.int .i64 k', .int .u64 b', .string t', .slice a1' l1' c1', .slice a2' l2' c2', .slice a3' l3' c3', .slice a4' l4' c4']); refine (FB.out _).mono ?_; rintro _ w2 ⟨rfl, hb⟩; have BA := BA.below hb; have BB := BB.below hb; have BD := BD.below hb; have HB := bt HB hb; have hL := hL.below hb; have TA := treeB TA hb; have TB := treeB TB hb; clear hb)
        refine hK.out _ _ ?_ (fun hHeld => ?_)
        · (try dsimp only)
          with_reducible exact ⟨BA.cells, BB.cells, BD.cells⟩
        clear hK K
        (try simp only [Act.put, List.setIfInBounds_toArray, List.set_cons_zero, List.set_cons_succ])
        refine take_to (i := 9) (d := 59) (v := .bool false) rfl rfl (by kernel_rfl) (by kernel_rfl) (by kernel_rfl) (fun _ _ _ h => h) (Or.inl ⟨by kernel_rfl, fun w hSw => by (try dsimp only at hSw); go_simp⟩) (by assumption) ?_
        (try simp only [Act.put, List.setIfInBounds_toArray, List.set_cons_zero, List.set_cons_succ])
        refine take_to (i := 10) (d := 60) (v := .bool false) rfl rfl (by kernel_rfl) (by kernel_rfl) (by kernel_rfl) (fun _ _ _ h => h) (Or.inl ⟨by kernel_rfl, fun w hSw => by (try dsimp only at hSw); go_simp⟩) (by assumption) ?_
        (try simp only [Act.put, List.setIfInBounds_toArray, List.set_cons_zero, List.set_cons_succ])
        refine take_to (i := 11) (d := 61) (v := undef) rfl rfl (by kernel_rfl) (by kernel_rfl) (by kernel_rfl) (fun _ _ _ h => h) (Or.inr ⟨by kernel_rfl, rfl⟩) (by assumption) ?_
        (try simp only [Act.put, List.setIfInBounds_toArray, List.set_cons_zero, List.set_cons_succ])
        refine take_to (i := 12) (d := 62) (v := undef) rfl rfl (by kernel_rfl) (by kernel_rfl) (by kernel_rfl) (fun _ _ _ h => h) (Or.inr ⟨by kernel_rfl, rfl⟩) (by assumption) ?_
        (try simp only [Act.put, List.setIfInBounds_toArray, List.set_cons_zero, List.set_cons_succ])
        refine take_to (i := 13) (d := 63) (v := undef) rfl rfl (by kernel_rfl) (by kernel_rfl) (by kernel_rfl) (fun _ _ _ h => h) (Or.inr ⟨by kernel_rfl, rfl⟩) (by assumption) ?_
        (try simp only [Act.put, List.setIfInBounds_toArray, List.set_cons_zero, List.set_cons_succ])
        refine take_to (i := 14) (d := 64) (v := undef) rfl rfl (by kernel_rfl) (by kernel_rfl) (by kernel_rfl) (fun _ _ _ h => h) (Or.inr ⟨by kernel_rfl, rfl⟩) (by assumption) ?_
        (try simp only [Act.put, List.setIfInBounds_toArray, List.set_cons_zero, List.set_cons_succ])
        refine take_to (i := 15) (d := 65) (v := undef) rfl rfl (by kernel_rfl) (by kernel_rfl) (by kernel_rfl) (fun _ _ _ h => h) (Or.inr ⟨by kernel_rfl, rfl⟩) (by assumption) ?_
        (try simp only [Act.put, List.setIfInBounds_toArray, List.set_cons_zero, List.set_cons_succ])
        refine take_to (i := 16) (d := 66) (v := undef) rfl rfl (by kernel_rfl) (by kernel_rfl) (by kernel_rfl) (fun _ _ _ h => h) (Or.inr ⟨by kernel_rfl, rfl⟩) (by assumption) ?_
        (try simp only [Act.put, List.setIfInBounds_toArray, List.set_cons_zero, List.set_cons_succ])
        refine take_to (i := 17) (d := 67) (v := undef) rfl rfl (by kernel_rfl) (by kernel_rfl) (by kernel_rfl) (fun _ _ _ h => h) (Or.inr ⟨by kernel_rfl, rfl⟩) (by assumption) ?_
        (try simp only [Act.put, List.setIfInBounds_toArray, List.set_cons_zero, List.set_cons_succ])
        refine take_to (i := 18) (d := 68) (v := undef) rfl rfl (by kernel_rfl) (by kernel_rfl) (by kernel_rfl) (fun _ _ _ h => h) (Or.inr ⟨by kernel_rfl, rfl⟩) (by assumption) ?_
        (try simp only [Act.put, List.setIfInBounds_toArray, List.set_cons_zero, List.set_cons_succ])
        refine take_to (i := 19) (d := 69) (v := .bool false) rfl rfl (by kernel_rfl) (by kernel_rfl) (by kernel_rfl) (fun _ _ _ h => h) (Or.inl ⟨by kernel_rfl, fun w hSw => by (try dsimp only at hSw); go_simp⟩) (by assumption) ?_
        (try simp only [Act.put, List.setIfInBounds_toArray, List.set_cons_zero, List.set_cons_succ])
        refine wpAnyH_done (by kernel_rfl) ?_ _
        all_goals
          go_wp2_with (go_at_call 9; refine (awake_any _ hL).mono ?_; rintro _ w2 ⟨rfl, hb⟩)
          go_ret
          exact ⟨rfl, bt HB hb⟩
      | true =>
        go_region_held3 (fun w' => (w'.cell? ⟨w.heap.size, 0, none⟩ = some (.int .i64 k) ∧ w'.cell? ⟨w.heap.size, 1, none⟩ = some (.int .u64 b) ∧ w'.cell? ⟨w.heap.size, 2, none⟩ = some (.string t) ∧ w'.cell? ⟨w.heap.size, 3, none⟩ = some (.slice a1 l1 c1) ∧ w'.cell? ⟨w.heap.size, 4, none⟩ = some (.slice a2 l2 c2) ∧ w'.cell? ⟨w.heap.size, 5, none⟩ = some (.slice a3 l3 c3) ∧ w'.cell? ⟨w.heap.size, 6, none⟩ = some (.slice a4 l4 c4)) ∧ (w'.cell? ⟨w.heap.size + 1, 0, none⟩ = some (.int .i64 k') ∧ w'.cell? ⟨w.heap.size + 1, 1, none⟩ = some (.int .u64 b') ∧ w'.cell? ⟨w.heap.size + 1, 2, none⟩ = some (.string t') ∧ w'.cell? ⟨w.heap.size + 1, 3, none⟩ = some (.slice a1' l1' c1') ∧ w'.cell? ⟨w.heap.size + 1, 4, none⟩ = some (.slice a2' l2' c2') ∧ w'.cell? ⟨w.heap.size + 1, 5, none⟩ = some (.slice a3' l3' c3') ∧ w'.cell? ⟨w.heap.size + 1, 6, none⟩ = some (.slice a4' l4' c4')) ∧ (w'.cell? ⟨w.heap.size + 2, 0, none⟩ = some (.int .i64 k'') ∧ w'.cell? ⟨w.heap.size + 2, 1, none⟩ = some (.int .u64 b'') ∧ w'.cell? ⟨w.heap.size + 2, 2, none⟩ = some (.string t'') ∧ w'.cell? ⟨w.heap.size + 2, 3, none⟩ = some (.slice a1'' l1'' c1'') ∧ w'.cell? ⟨w.heap.size + 2, 4, none⟩ = some (.slice a2'' l2'' c2'') ∧ w'.cell? ⟨w.heap.size + 2, 5, none⟩ = some (.slice a3'' l3'' c3'') ∧ w'.cell? ⟨w.heap.size + 2, 6, none⟩ = some (.slice a4'' l4'' c4''))) (with_reducible exact ⟨BA.cells, BB.cells, BD.cells⟩)
          (first
            | (go_at_call_of 15 (Value.agg #[.int .i64 k, .int .u64 b, .string t, .slice a1 l1 c1, .slice a2 l2 c2, .slice a3 l3 c3, .slice a4 l4 c4]); refine (FA.out _).mono ?_; rintro _ w2 ⟨rfl, hb⟩; have BA := BA.below hb; have BB := BB.below hb; have BD := BD.below hb; have HB := bt HB hb; have hL := hL.below hb; have TA := treeB TA hb; have TB := treeB TB hb; clear hb)
            | (go_at_call_of 15 (Value.agg #[.int .i64 k', .int .u64 b', .string t', .slice a1' l1' c1', .slice a2' l2' c2', .slice a3' l3' c3', .slice a4' l4' c4']); refine (FB.out _).mono ?_; rintro _ w2 ⟨rfl, hb⟩; have BA := BA.below hb; have BB := BB.below hb; have BD := BD.below hb; have HB := bt HB hb; have hL := hL.below hb; have TA := treeB TA hb; have TB := treeB TB hb; clear hb)
            | (go_at_call_of 13 (Value.agg #[.int .i64 k, .int .u64 b, .string t, .slice a1 l1 c1, .slice a2 l2 c2, .slice a3 l3 c3, .slice a4 l4 c4]); refine (norm_p n ⟨k, b, t, a1, l1, c1, a2, l2, c2, a3, l3, c3, a4, l4, c4⟩ _ TA).mono ?_; rintro _ w2 ⟨x, rfl, hx, tx, hb⟩; have BA := BA.below hb; have BB := BB.below hb; have BD := BD.below hb; have HB := bt HB hb; have hL := hL.below hb; have TA := treeB TA hb; have TB := treeB TB hb; clear hb; have HX := Lib.hid hx; clear hx tx; obtain ⟨xk, xb, xt, xa1, xl1, xc1, xa2, xl2, xc2, xa3, xl3, xc3, xa4, xl4, xc4⟩ := x; simp only [vv])
            | (go_at_call_of 13 (Value.agg #[.int .i64 k', .int .u64 b', .string t', .slice a1' l1' c1', .slice a2' l2' c2', .slice a3' l3' c3', .slice a4' l4' c4']); refine (norm_p n' ⟨k', b', t', a1', l1', c1', a2', l2', c2', a3', l3', c3', a4', l4', c4'⟩ _ TB).mono ?_; rintro _ w2 ⟨y, rfl, hy, ty, hb⟩; have BA := BA.below hb; have BB := BB.below hb; have BD := BD.below hb; have HB := bt HB hb; have hL := hL.below hb; have TA := treeB TA hb; have TB := treeB TB hb; clear hb; have HY := Lib.hid hy; clear hy ty; obtain ⟨yk, yb, yt, ya1, yl1, yc1, ya2, yl2, yc2, ya3, yl3, yc3, ya4, yl4, yc4⟩ := y; simp only [vv])
            | (go_at_call 12; refine (same_any ⟨xk, xb, xt, xa1, xl1, xc1, xa2, xl2, xc2, xa3, xl3, xc3, xa4, xl4, xc4⟩ ⟨yk, yb, yt, ya1, yl1, yc1, ya2, yl2, yc2, ya3, yl3, yc3, ya4, yl4, yc4⟩ _).mono ?_; rintro _ w2 ⟨rfl, hb⟩; rw [show sameB (sc ⟨xk, xb, xt, xa1, xl1, xc1, xa2, xl2, xc2, xa3, xl3, xc3, xa4, xl4, xc4⟩) (sc ⟨yk, yb, yt, ya1, yl1, yc1, ya2, yl2, yc2, ya3, yl3, yc3, ya4, yl4, yc4⟩) = true from (by rw [HX.out, HY.out]; exact (SM.out (by trivial) (by trivial)).trans (by decide))]; have BA := BA.below hb; have BB := BB.below hb; have BD := BD.below hb; have HB := bt HB hb; have hL := hL.below hb; have TA := treeB TA hb; have TB := treeB TB hb; clear hb))
        all_goals
          go_wp2_with (go_at_call 9; refine (awake_any _ hL).mono ?_; rintro _ w2 ⟨rfl, hb⟩)
          go_ret
          exact ⟨rfl, bt HB hb⟩
  · go_wp2_with fail
    have BA := BA.drew
    have BB := BB.drew
    have BD := BD.drew
    have TA := treeB TA (Below.refl _ _).drew
    have TB := treeB TB (Below.refl _ _).drew
    have hL := hL.below (Below.refl _ _).drew
    have HB := HB.drew
    cases fA with
    | false =>
      refine wp_region_held_drew (S := (fun w' => (w'.cell? ⟨w.heap.size, 0, none⟩ = some (.int .i64 k) ∧ w'.cell? ⟨w.heap.size, 1, none⟩ = some (.int .u64 b) ∧ w'.cell? ⟨w.heap.size, 2, none⟩ = some (.string t) ∧ w'.cell? ⟨w.heap.size, 3, none⟩ = some (.slice a1 l1 c1) ∧ w'.cell? ⟨w.heap.size, 4, none⟩ = some (.slice a2 l2 c2) ∧ w'.cell? ⟨w.heap.size, 5, none⟩ = some (.slice a3 l3 c3) ∧ w'.cell? ⟨w.heap.size, 6, none⟩ = some (.slice a4 l4 c4)) ∧ (w'.cell? ⟨w.heap.size + 1, 0, none⟩ = some (.int .i64 k') ∧ w'.cell? ⟨w.heap.size + 1, 1, none⟩ = some (.int .u64 b') ∧ w'.cell? ⟨w.heap.size + 1, 2, none⟩ = some (.string t') ∧ w'.cell? ⟨w.heap.size + 1, 3, none⟩ = some (.slice a1' l1' c1') ∧ w'.cell? ⟨w.heap.size + 1, 4, none⟩ = some (.slice a2' l2' c2') ∧ w'.cell? ⟨w.heap.size + 1, 5, none⟩ = some (.slice a3' l3' c3') ∧ w'.cell? ⟨w.heap.size + 1, 6, none⟩ = some (.slice a4' l4' c4')) ∧ (w'.cell? ⟨w.heap.size + 2, 0, none⟩ = some (.int .i64 k'') ∧ w'.cell? ⟨w.heap.size + 2, 1, none⟩ = some (.int .u64 b'') ∧ w'.cell? ⟨w.heap.size + 2, 2, none⟩ = some (.string t'') ∧ w'.cell? ⟨w.heap.size + 2, 3, none⟩ = some (.slice a1'' l1'' c1'') ∧ w'.cell? ⟨w.heap.size + 2, 4, none⟩ = some (.slice a2'' l2'' c2'') ∧ w'.cell? ⟨w.heap.size + 2, 5, none⟩ = some (.slice a3'' l3'' c3'') ∧ w'.cell? ⟨w.heap.size + 2, 6, none⟩ = some (.slice a4'' l4'' c4'')))) (by kernel_rfl) ?_ (fun hHeld => ?_)
      · (try dsimp only)
        with_reducible exact ⟨BA.cells, BB.cells, BD.cells⟩
      refine take_to (i := 0) (d := 50) (v := ?_) rfl rfl (by kernel_rfl) (by kernel_rfl) (by kernel_rfl) (fun _ _ _ h => h) (Or.inl ⟨by kernel_rfl, ?_⟩) (by assumption) ?_
      case refine_2 =>
        intro w hSw
        (try dsimp only at hSw)
        go_simp
        (try with_reducible rfl)
      (try simp only [Act.put, List.setIfInBounds_toArray, List.set_cons_zero, List.set_cons_succ])
      refine take_to (i := 1) (d := 51) (v := ?_) rfl rfl (by kernel_rfl) (by kernel_rfl) (by kernel_rfl) (fun _ _ _ h => h) (Or.inl ⟨by kernel_rfl, ?_⟩) (by assumption) ?_
      case refine_2 =>
        intro w hSw
        (try dsimp only at hSw)
        go_simp
        (try with_reducible rfl)
      (try simp only [Act.put, List.setIfInBounds_toArray, List.set_cons_zero, List.set_cons_succ])
      refine take_to (i := 2) (d := 52) (v := ?_) rfl rfl (by kernel_rfl) (by kernel_rfl) (by kernel_rfl) (fun _ _ _ h => h) (Or.inl ⟨by kernel_rfl, ?_⟩) (by assumption) ?_
      case refine_2 =>
        intro w hSw
        (try dsimp only at hSw)
        go_simp
        (try with_reducible rfl)
      (try simp only [Act.put, List.setIfInBounds_toArray, List.set_cons_zero, List.set_cons_succ])
      refine wpAnyH_ready (rs := [3]) (by kernel_rfl) (by simp) ?_
      refine AllReadyH.cons rfl (fun K hK => ?_) AllReadyH.nil
      go_simp
      (go_at_call_of 15 (Value.agg #[.int .i64 k, .int .u64 b, .string t, .slice a1 l1 c1, .slice a2 l2 c2, .slice a3 l3 c3, .slice a4 l4 c4]); refine (FA.out _).mono ?_; rintro _ w2 ⟨rfl, hb⟩; have BA := BA.below hb; have BB := BB.below hb; have BD := BD.below hb; have HB := bt HB hb; have hL := hL.below hb; have TA := treeB TA hb; have TB := treeB TB hb; clear hb)
      refine hK.out _ _ ?_ (fun hHeld => ?_)
      · (try dsimp only)
        with_reducible exact ⟨BA.cells, BB.cells, BD.cells⟩
      clear hK K
      (try simp only [Act.put, List.setIfInBounds_toArray, List.set_cons_zero, List.set_cons_succ])
      refine take_to (i := 4) (d := 54) (v := ?_) rfl rfl (by kernel_rfl) (by kernel_rfl) (by kernel_rfl) (fun _ _ _ h => h) (Or.inl ⟨by kernel_rfl, ?_⟩) (by assumption) ?_
      case refine_2 =>
        intro w hSw
        (try dsimp only at hSw)
        go_simp
        (try with_reducible rfl)
      (try simp only [Act.put, List.setIfInBounds_toArray, List.set_cons_zero, List.set_cons_succ])
      refine take_to (i := 5) (d := 55) (v := undef) rfl rfl (by kernel_rfl) (by kernel_rfl) (by kernel_rfl) (fun _ _ _ h => h) (Or.inr ⟨by kernel_rfl, rfl⟩) (by assumption) ?_
      (try simp only [Act.put, List.setIfInBounds_toArray, List.set_cons_zero, List.set_cons_succ])
      refine take_to (i := 6) (d := 56) (v := undef) rfl rfl (by kernel_rfl) (by kernel_rfl) (by kernel_rfl) (fun _ _ _ h => h) (Or.inr ⟨by kernel_rfl, rfl⟩) (by assumption) ?_
      (try simp only [Act.put, List.setIfInBounds_toArray, List.set_cons_zero, List.set_cons_succ])
      refine take_to (i := 7) (d := 57) (v := undef) rfl rfl (by kernel_rfl) (by kernel_rfl) (by kernel_rfl) (fun _ _ _ h => h) (Or.inr ⟨by kernel_rfl, rfl⟩) (by assumption) ?_
      (try simp only [Act.put, List.setIfInBounds_toArray, List.set_cons_zero, List.set_cons_succ])
      refine take_to (i := 8) (d := 58) (v := undef) rfl rfl (by kernel_rfl) (by kernel_rfl) (by kernel_rfl) (fun _ _ _ h => h) (Or.inr ⟨by kernel_rfl, rfl⟩) (by assumption) ?_
      (try simp only [Act.put, List.setIfInBounds_toArray, List.set_cons_zero, List.set_cons_succ])
      refine take_to (i := 9) (d := 59) (v := .bool false) rfl rfl (by kernel_rfl) (by kernel_rfl) (by kernel_rfl) (fun _ _ _ h => h) (Or.inl ⟨by kernel_rfl, fun w hSw => by (try dsimp only at hSw); go_simp⟩) (by assumption) ?_
      (try simp only [Act.put, List.setIfInBounds_toArray, List.set_cons_zero, List.set_cons_succ])
      refine take_to (i := 10) (d := 60) (v := .bool false) rfl rfl (by kernel_rfl) (by kernel_rfl) (by kernel_rfl) (fun _ _ _ h => h) (Or.inl ⟨by kernel_rfl, fun w hSw => by (try dsimp only at hSw); go_simp⟩) (by assumption) ?_
      (try simp only [Act.put, List.setIfInBounds_toArray, List.set_cons_zero, List.set_cons_succ])
      refine take_to (i := 11) (d := 61) (v := undef) rfl rfl (by kernel_rfl) (by kernel_rfl) (by kernel_rfl) (fun _ _ _ h => h) (Or.inr ⟨by kernel_rfl, rfl⟩) (by assumption) ?_
      (try simp only [Act.put, List.setIfInBounds_toArray, List.set_cons_zero, List.set_cons_succ])
      refine take_to (i := 12) (d := 62) (v := undef) rfl rfl (by kernel_rfl) (by kernel_rfl) (by kernel_rfl) (fun _ _ _ h => h) (Or.inr ⟨by kernel_rfl, rfl⟩) (by assumption) ?_
      (try simp only [Act.put, List.setIfInBounds_toArray, List.set_cons_zero, List.set_cons_succ])
      refine take_to (i := 13) (d := 63) (v := undef) rfl rfl (by kernel_rfl) (by kernel_rfl) (by kernel_rfl) (fun _ _ _ h => h) (Or.inr ⟨by kernel_rfl, rfl⟩) (by assumption) ?_
      (try simp only [Act.put, List.setIfInBounds_toArray, List.set_cons_zero, List.set_cons_succ])
      refine take_to (i := 14) (d := 64) (v := undef) rfl rfl (by kernel_rfl) (by kernel_rfl) (by kernel_rfl) (fun _ _ _ h => h) (Or.inr ⟨by kernel_rfl, rfl⟩) (by assumption) ?_
      (try simp only [Act.put, List.setIfInBounds_toArray, List.set_cons_zero, List.set_cons_succ])
      refine take_to (i := 15) (d := 65) (v := undef) rfl rfl (by kernel_rfl) (by kernel_rfl) (by kernel_rfl) (fun _ _ _ h => h) (Or.inr ⟨by kernel_rfl, rfl⟩) (by assumption) ?_
      (try simp only [Act.put, List.setIfInBounds_toArray, List.set_cons_zero, List.set_cons_succ])
      refine take_to (i := 16) (d := 66) (v := undef) rfl rfl (by kernel_rfl) (by kernel_rfl) (by kernel_rfl) (fun _ _ _ h => h) (Or.inr ⟨by kernel_rfl, rfl⟩) (by assumption) ?_
      (try simp only [Act.put, List.setIfInBounds_toArray, List.set_cons_zero, List.set_cons_succ])
      refine take_to (i := 17) (d := 67) (v := undef) rfl rfl (by kernel_rfl) (by kernel_rfl) (by kernel_rfl) (fun _ _ _ h => h) (Or.inr ⟨by kernel_rfl, rfl⟩) (by assumption) ?_
      (try simp only [Act.put, List.setIfInBounds_toArray, List.set_cons_zero, List.set_cons_succ])
      refine take_to (i := 18) (d := 68) (v := undef) rfl rfl (by kernel_rfl) (by kernel_rfl) (by kernel_rfl) (fun _ _ _ h => h) (Or.inr ⟨by kernel_rfl, rfl⟩) (by assumption) ?_
      (try simp only [Act.put, List.setIfInBounds_toArray, List.set_cons_zero, List.set_cons_succ])
      refine take_to (i := 19) (d := 69) (v := .bool false) rfl rfl (by kernel_rfl) (by kernel_rfl) (by kernel_rfl) (fun _ _ _ h => h) (Or.inl ⟨by kernel_rfl, fun w hSw => by (try dsimp only at hSw); go_simp⟩) (by assumption) ?_
      (try simp only [Act.put, List.setIfInBounds_toArray, List.set_cons_zero, List.set_cons_succ])
      refine wpAnyH_done (by kernel_rfl) ?_ _
      all_goals
        go_wp2_with (go_at_call 9; refine (awake_any _ hL).mono ?_; rintro _ w2 ⟨rfl, hb⟩)
        go_ret
        exact ⟨rfl, bt HB hb⟩
    | true =>
      cases fB with
      | false =>
        refine wp_region_held_drew (S := (fun w' => (w'.cell? ⟨w.heap.size, 0, none⟩ = some (.int .i64 k) ∧ w'.cell? ⟨w.heap.size, 1, none⟩ = some (.int .u64 b) ∧ w'.cell? ⟨w.heap.size, 2, none⟩ = some (.string t) ∧ w'.cell? ⟨w.heap.size, 3, none⟩ = some (.slice a1 l1 c1) ∧ w'.cell? ⟨w.heap.size, 4, none⟩ = some (.slice a2 l2 c2) ∧ w'.cell? ⟨w.heap.size, 5, none⟩ = some (.slice a3 l3 c3) ∧ w'.cell? ⟨w.heap.size, 6, none⟩ = some (.slice a4 l4 c4)) ∧ (w'.cell? ⟨w.heap.size + 1, 0, none⟩ = some (.int .i64 k') ∧ w'.cell? ⟨w.heap.size + 1, 1, none⟩ = some (.int .u64 b') ∧ w'.cell? ⟨w.heap.size + 1, 2, none⟩ = some (.string t') ∧ w'.cell? ⟨w.heap.size + 1, 3, none⟩ = some (.slice a1' l1' c1') ∧ w'.cell? ⟨w.heap.size + 1, 4, none⟩ = some (.slice a2' l2' c2') ∧ w'.cell? ⟨w.heap.size + 1, 5, none⟩ = some (.slice a3' l3' c3') ∧ w'.cell? ⟨w.heap.size + 1, 6, none⟩ = some (.slice a4' l4' c4')) ∧ (w'.cell? ⟨w.heap.size + 2, 0, none⟩ = some (.int .i64 k'') ∧ w'.cell? ⟨w.heap.size + 2, 1, none⟩ = some (.int .u64 b'') ∧ w'.cell? ⟨w.heap.size + 2, 2, none⟩ = some (.string t'') ∧ w'.cell? ⟨w.heap.size + 2, 3, none⟩ = some (.slice a1'' l1'' c1'') ∧ w'.cell? ⟨w.heap.size + 2, 4, none⟩ = some (.slice a2'' l2'' c2'') ∧ w'.cell? ⟨w.heap.size + 2, 5, none⟩ = some (.slice a3'' l3'' c3'') ∧ w'.cell? ⟨w.heap.size + 2, 6, none⟩ = some (.slice a4'' l4'' c4'')))) (by kernel_rfl) ?_ (fun hHeld => ?_)
        · (try dsimp only)
          with_reducible exact ⟨BA.cells, BB.cells, BD.cells⟩
        refine take_to (i := 0) (d := 50) (v := ?_) rfl rfl (by kernel_rfl) (by kernel_rfl) (by kernel_rfl) (fun _ _ _ h => h) (Or.inl ⟨by kernel_rfl, ?_⟩) (by assumption) ?_
        case refine_2 =>
          intro w hSw
          (try dsimp only at hSw)
          go_simp
          (try with_reducible rfl)
        (try simp only [Act.put, List.setIfInBounds_toArray, List.set_cons_zero, List.set_cons_succ])
        refine take_to (i := 1) (d := 51) (v := ?_) rfl rfl (by kernel_rfl) (by kernel_rfl) (by kernel_rfl) (fun _ _ _ h => h) (Or.inl ⟨by kernel_rfl, ?_⟩) (by assumption) ?_
        case refine_2 =>
          intro w hSw
          (try dsimp only at hSw)
          go_simp
          (try with_reducible rfl)
        (try simp only [Act.put, List.setIfInBounds_toArray, List.set_cons_zero, List.set_cons_succ])
        refine take_to (i := 2) (d := 52) (v := ?_) rfl rfl (by kernel_rfl) (by kernel_rfl) (by kernel_rfl) (fun _ _ _ h => h) (Or.inl ⟨by kernel_rfl, ?_⟩) (by assumption) ?_
        case refine_2 =>
          intro w hSw
          (try dsimp only at hSw)
          go_simp
          (try with_reducible rfl)
        (try simp only [Act.put, List.setIfInBounds_toArray, List.set_cons_zero, List.set_cons_succ])
        refine wpAnyH_ready (rs := [3]) (by kernel_rfl) (by simp) ?_
        refine AllReadyH.cons rfl (fun K hK => ?_) AllReadyH.nil
        go_simp
        (go_at_call_of 15 (Value.agg #[.int .i64 k, .int .u64 b, .string t, .slice a1 l1 c1, .slice a2 l2 c2, .slice a3 l3 c3, .slice a4 l4 c4]); refine (FA.out _).mono ?_; rintro _ w2 ⟨rfl, hb⟩; have BA := BA.below hb; have BB := BB.below hb; have BD := BD.below hb; have HB := bt HB hb; have hL := hL.below hb; have TA := treeB TA hb; have TB := treeB TB hb; clear hb)
        refine hK.out _ _ ?_ (fun hHeld => ?_)
        · (try dsimp only)
          with_reducible exact ⟨BA.cells, BB.cells, BD.cells⟩
        clear hK K
        (try simp only [Act.put, List.setIfInBounds_toArray, List.set_cons_zero, List.set_cons_succ])
        refine take_to (i := 4) (d := 54) (v := ?_) rfl rfl (by kernel_rfl) (by kernel_rfl) (by kernel_rfl) (fun _ _ _ h => h) (Or.inl ⟨by kernel_rfl, ?_⟩) (by assumption) ?_
        case refine_2 =>
          intro w hSw
          (try dsimp only at hSw)
          go_simp
          (try with_reducible rfl)
        (try simp only [Act.put, List.setIfInBounds_toArray, List.set_cons_zero, List.set_cons_succ])
        refine take_to (i := 5) (d := 55) (v := ?_) rfl rfl (by kernel_rfl) (by kernel_rfl) (by kernel_rfl) (fun _ _ _ h => h) (Or.inl ⟨by kernel_rfl, ?_⟩) (by assumption) ?_
        case refine_2 =>
          intro w hSw
          (try dsimp only at hSw)
          go_simp
          (try with_reducible rfl)
        (try simp only [Act.put, List.setIfInBounds_toArray, List.set_cons_zero, List.set_cons_succ])
        refine take_to (i := 6) (d := 56) (v := ?_) rfl rfl (by kernel_rfl) (by kernel_rfl) (by kernel_rfl) (fun _ _ _ h => h) (Or.inl ⟨by kernel_rfl, ?_⟩) (by assumption) ?_
        case refine_2 =>
          intro w hSw
          (try dsimp only at hSw)
          go_simp
          (try with_reducible rfl)
        (try simp only [Act.put, List.setIfInBounds_toArray, List.set_cons_zero, List.set_cons_succ])
        refine take_to (i := 7) (d := 57) (v := ?_) rfl rfl (by kernel_rfl) (by kernel_rfl) (by kernel_rfl) (fun _ _ _ h => h) (Or.inl ⟨by kernel_rfl, ?_⟩) (by assumption) ?_
        case refine_2 =>
          intro w hSw
          (try dsimp only at hSw)
          go_simp
          (try with_reducible rfl)
        (try simp only [Act.put, List.setIfInBounds_toArray, List.set_cons_zero, List.set_cons_succ])
        refine wpAnyH_ready (rs := [8]) (by kernel_rfl) (by simp) ?_
        refine AllReadyH.cons rfl (fun K hK => ?_) AllReadyH.nil
        go_simp
        (go_at_call_of 15 (Value.agg #[.int .i64 k', .int .u64 b', .string t', .slice a1' l1' c1', .slice a2' l2' c2', .slice a3' l3' c3', .slice a4' l4' c4']); refine (FB.out _).mono ?_; rintro _ w2 ⟨rfl, hb⟩; have BA := BA.below hb; have BB := BB.below hb; have BD := BD.below hb; have HB := bt HB hb; have hL := hL.below hb; have TA := treeB TA hb; have TB := treeB TB hb; clear hb)
        refine hK.out _ _ ?_ (fun hHeld => ?_)
        · (try dsimp only)
          with_reducible exact ⟨BA.cells, BB.cells, BD.cells⟩
        clear hK K
        (try simp only [Act.put, List.setIfInBounds_toArray, List.set_cons_zero, List.set_cons_succ])
        refine take_to (i := 9) (d := 59) (v := .bool false) rfl rfl (by kernel_rfl) (by kernel_rfl) (by kernel_rfl) (fun _ _ _ h => h) (Or.inl ⟨by kernel_rfl, fun w hSw => by (try dsimp only at hSw); go_simp⟩) (by assumption) ?_
        (try simp only [Act.put, List.setIfInBounds_toArray, List.set_cons_zero, List.set_cons_succ])
        refine take_to (i := 10) (d := 60) (v := .bool false) rfl rfl (by kernel_rfl) (by kernel_rfl) (by kernel_rfl) (fun _ _ _ h => h) (Or.inl ⟨by kernel_rfl, fun w hSw => by (try dsimp only at hSw); go_simp⟩) (by assumption) ?_
        (try simp only [Act.put, List.setIfInBounds_toArray, List.set_cons_zero, List.set_cons_succ])
        refine take_to (i := 11) (d := 61) (v := undef) rfl rfl (by kernel_rfl) (by kernel_rfl) (by kernel_rfl) (fun _ _ _ h => h) (Or.inr ⟨by kernel_rfl, rfl⟩) (by assumption) ?_
        (try simp only [Act.put, List.setIfInBounds_toArray, List.set_cons_zero, List.set_cons_succ])
        refine take_to (i := 12) (d := 62) (v := undef) rfl rfl (by kernel_rfl) (by kernel_rfl) (by kernel_rfl) (fun _ _ _ h => h) (Or.inr ⟨by kernel_rfl, rfl⟩) (by assumption) ?_
        (try simp only [Act.put, List.setIfInBounds_toArray, List.set_cons_zero, List.set_cons_succ])
        refine take_to (i := 13) (d := 63) (v := undef) rfl rfl (by kernel_rfl) (by kernel_rfl) (by kernel_rfl) (fun _ _ _ h => h) (Or.inr ⟨by kernel_rfl, rfl⟩) (by assumption) ?_
        (try simp only [Act.put, List.setIfInBounds_toArray, List.set_cons_zero, List.set_cons_succ])
        refine take_to (i := 14) (d := 64) (v := undef) rfl rfl (by kernel_rfl) (by kernel_rfl) (by kernel_rfl) (fun _ _ _ h => h) (Or.inr ⟨by kernel_rfl, rfl⟩) (by assumption) ?_
        (try simp only [Act.put, List.setIfInBounds_toArray, List.set_cons_zero, List.set_cons_succ])
        refine take_to (i := 15) (d := 65) (v := undef) rfl rfl (by kernel_rfl) (by kernel_rfl) (by kernel_rfl) (fun _ _ _ h => h) (Or.inr ⟨by kernel_rfl, rfl⟩) (by assumption) ?_
        (try simp only [Act.put, List.setIfInBounds_toArray, List.set_cons_zero, List.set_cons_succ])
        refine take_to (i := 16) (d := 66) (v := undef) rfl rfl (by kernel_rfl) (by kernel_rfl) (by kernel_rfl) (fun _ _ _ h => h) (Or.inr ⟨by kernel_rfl, rfl⟩) (by assumption) ?_
        (try simp only [Act.put, List.setIfInBounds_toArray, List.set_cons_zero, List.set_cons_succ])
        refine take_to (i := 17) (d := 67) (v := undef) rfl rfl (by kernel_rfl) (by kernel_rfl) (by kernel_rfl) (fun _ _ _ h => h) (Or.inr ⟨by kernel_rfl, rfl⟩) (by assumption) ?_
        (try simp only [Act.put, List.setIfInBounds_toArray, List.set_cons_zero, List.set_cons_succ])
        refine take_to (i := 18) (d := 68) (v := undef) rfl rfl (by kernel_rfl) (by kernel_rfl) (by kernel_rfl) (fun _ _ _ h => h) (Or.inr ⟨by kernel_rfl, rfl⟩) (by assumption) ?_
        (try simp only [Act.put, List.setIfInBounds_toArray, List.set_cons_zero, List.set_cons_succ])
        refine take_to (i := 19) (d := 69) (v := .bool false) rfl rfl (by kernel_rfl) (by kernel_rfl) (by kernel_rfl) (fun _ _ _ h => h) (Or.inl ⟨by kernel_rfl, fun w hSw => by (try dsimp only at hSw); go_simp⟩) (by assumption) ?_
        (try simp only [Act.put, List.setIfInBounds_toArray, List.set_cons_zero, List.set_cons_succ])
        refine wpAnyH_done (by kernel_rfl) ?_ _
        all_goals
          go_wp2_with (go_at_call 9; refine (awake_any _ hL).mono ?_; rintro _ w2 ⟨rfl, hb⟩)
          go_ret
          exact ⟨rfl, bt HB hb⟩
      | true =>
        go_region_held3 (fun w' => (w'.cell? ⟨w.heap.size, 0, none⟩ = some (.int .i64 k) ∧ w'.cell? ⟨w.heap.size, 1, none⟩ = some (.int .u64 b) ∧ w'.cell? ⟨w.heap.size, 2, none⟩ = some (.string t) ∧ w'.cell? ⟨w.heap.size, 3, none⟩ = some (.slice a1 l1 c1) ∧ w'.cell? ⟨w.heap.size, 4, none⟩ = some (.slice a2 l2 c2) ∧ w'.cell? ⟨w.heap.size, 5, none⟩ = some (.slice a3 l3 c3) ∧ w'.cell? ⟨w.heap.size, 6, none⟩ = some (.slice a4 l4 c4)) ∧ (w'.cell? ⟨w.heap.size + 1, 0, none⟩ = some (.int .i64 k') ∧ w'.cell? ⟨w.heap.size + 1, 1, none⟩ = some (.int .u64 b') ∧ w'.cell? ⟨w.heap.size + 1, 2, none⟩ = some (.string t') ∧ w'.cell? ⟨w.heap.size + 1, 3, none⟩ = some (.slice a1' l1' c1') ∧ w'.cell? ⟨w.heap.size + 1, 4, none⟩ = some (.slice a2' l2' c2') ∧ w'.cell? ⟨w.heap.size + 1, 5, none⟩ = some (.slice a3' l3' c3') ∧ w'.cell? ⟨w.heap.size + 1, 6, none⟩ = some (.slice a4' l4' c4')) ∧ (w'.cell? ⟨w.heap.size + 2, 0, none⟩ = some (.int .i64 k'') ∧ w'.cell? ⟨w.heap.size + 2, 1, none⟩ = some (.int .u64 b'') ∧ w'.cell? ⟨w.heap.size + 2, 2, none⟩ = some (.string t'') ∧ w'.cell? ⟨w.heap.size + 2, 3, none⟩ = some (.slice a1'' l1'' c1'') ∧ w'.cell? ⟨w.heap.size + 2, 4, none⟩ = some (.slice a2'' l2'' c2'') ∧ w'.cell? ⟨w.heap.size + 2, 5, none⟩ = some (.slice a3'' l3'' c3'') ∧ w'.cell? ⟨w.heap.size + 2, 6, none⟩ = some (.slice a4'' l4'' c4''))) (with_reducible exact ⟨BA.cells, BB.cells, BD.cells⟩)
          (first
            | (go_at_call_of 15 (Value.agg #[.int .i64 k, .int .u64 b, .string t, .slice a1 l1 c1, .slice a2 l2 c2, .slice a3 l3 c3, .slice a4 l4 c4]); refine (FA.out _).mono ?_; rintro _ w2 ⟨rfl, hb⟩; have BA := BA.below hb; have BB := BB.below hb; have BD := BD.below hb; have HB := bt HB hb; have hL := hL.below hb; have TA := treeB TA hb; have TB := treeB TB hb; clear hb)
            | (go_at_call_of 15 (Value.agg #[.int .i64 k', .int .u64 b', .string t', .slice a1' l1' c1', .slice a2' l2' c2', .slice a3' l3' c3', .slice a4' l4' c4']); refine (FB.out _).mono ?_; rintro _ w2 ⟨rfl, hb⟩; have BA := BA.below hb; have BB := BB.below hb; have BD := BD.below hb; have HB := bt HB hb; have hL := hL.below hb; have TA := treeB TA hb; have TB := treeB TB hb; clear hb)
            | (go_at_call_of 13 (Value.agg #[.int .i64 k, .int .u64 b, .string t, .slice a1 l1 c1, .slice a2 l2 c2, .slice a3 l3 c3, .slice a4 l4 c4]); refine (norm_p n ⟨k, b, t, a1, l1, c1, a2, l2, c2, a3, l3, c3, a4, l4, c4⟩ _ TA).mono ?_; rintro _ w2 ⟨x, rfl, hx, tx, hb⟩; have BA := BA.below hb; have BB := BB.below hb; have BD := BD.below hb; have HB := bt HB hb; have hL := hL.below hb; have TA := treeB TA hb; have TB := treeB TB hb; clear hb; have HX := Lib.hid hx; clear hx tx; obtain ⟨xk, xb, xt, xa1, xl1, xc1, xa2, xl2, xc2, xa3, xl3, xc3, xa4, xl4, xc4⟩ := x; simp only [vv])
            | (go_at_call_of 13 (Value.agg #[.int .i64 k', .int .u64 b', .string t', .slice a1' l1' c1', .slice a2' l2' c2', .slice a3' l3' c3', .slice a4' l4' c4']); refine (norm_p n' ⟨k', b', t', a1', l1', c1', a2', l2', c2', a3', l3', c3', a4', l4', c4'⟩ _ TB).mono ?_; rintro _ w2 ⟨y, rfl, hy, ty, hb⟩; have BA := BA.below hb; have BB := BB.below hb; have BD := BD.below hb; have HB := bt HB hb; have hL := hL.below hb; have TA := treeB TA hb; have TB := treeB TB hb; clear hb; have HY := Lib.hid hy; clear hy ty; obtain ⟨yk, yb, yt, ya1, yl1, yc1, ya2, yl2, yc2, ya3, yl3, yc3, ya4, yl4, yc4⟩ := y; simp only [vv])
            | (go_at_call 12; refine (same_any ⟨xk, xb, xt, xa1, xl1, xc1, xa2, xl2, xc2, xa3, xl3, xc3, xa4, xl4, xc4⟩ ⟨yk, yb, yt, ya1, yl1, yc1, ya2, yl2, yc2, ya3, yl3, yc3, ya4, yl4, yc4⟩ _).mono ?_; rintro _ w2 ⟨rfl, hb⟩; rw [show sameB (sc ⟨xk, xb, xt, xa1, xl1, xc1, xa2, xl2, xc2, xa3, xl3, xc3, xa4, xl4, xc4⟩) (sc ⟨yk, yb, yt, ya1, yl1, yc1, ya2, yl2, yc2, ya3, yl3, yc3, ya4, yl4, yc4⟩) = true from (by rw [HX.out, HY.out]; exact (SM.out (by trivial) (by trivial)).trans (by decide))]; have BA := BA.below hb; have BB := BB.below hb; have BD := BD.below hb; have HB := bt HB hb; have hL := hL.below hb; have TA := treeB TA hb; have TB := treeB TB hb; clear hb))
        all_goals
          go_wp2_with (go_at_call 9; refine (awake_any _ hL).mono ?_; rintro _ w2 ⟨rfl, hb⟩)
          go_ret
          exact ⟨rfl, bt HB hb⟩
  · go_wp2_with fail
    have BA := BA.drew
    have BB := BB.drew
    have BD := BD.drew
    have TA := treeB TA (Below.refl _ _).drew
    have TB := treeB TB (Below.refl _ _).drew
    have hL := hL.below (Below.refl _ _).drew
    have HB := HB.drew
    cases fA with
    | false =>
      refine wp_region_held_drew (S := (fun w' => (w'.cell? ⟨w.heap.size, 0, none⟩ = some (.int .i64 k) ∧ w'.cell? ⟨w.heap.size, 1, none⟩ = some (.int .u64 b) ∧ w'.cell? ⟨w.heap.size, 2, none⟩ = some (.string t) ∧ w'.cell? ⟨w.heap.size, 3, none⟩ = some (.slice a1 l1 c1) ∧ w'.cell? ⟨w.heap.size, 4, none⟩ = some (.slice a2 l2 c2) ∧ w'.cell? ⟨w.heap.size, 5, none⟩ = some (.slice a3 l3 c3) ∧ w'.cell? ⟨w.heap.size, 6, none⟩ = some (.slice a4 l4 c4)) ∧ (w'.cell? ⟨w.heap.size + 1, 0, none⟩ = some (.int .i64 k') ∧ w'.cell? ⟨w.heap.size + 1, 1, none⟩ = some (.int .u64 b') ∧ w'.cell? ⟨w.heap.size + 1, 2, none⟩ = some (.string t') ∧ w'.cell? ⟨w.heap.size + 1, 3, none⟩ = some (.slice a1' l1' c1') ∧ w'.cell? ⟨w.heap.size + 1, 4, none⟩ = some (.slice a2' l2' c2') ∧ w'.cell? ⟨w.heap.size + 1, 5, none⟩ = some (.slice a3' l3' c3') ∧ w'.cell? ⟨w.heap.size + 1, 6, none⟩ = some (.slice a4' l4' c4')) ∧ (w'.cell? ⟨w.heap.size + 2, 0, none⟩ = some (.int .i64 k'') ∧ w'.cell? ⟨w.heap.size + 2, 1, none⟩ = some (.int .u64 b'') ∧ w'.cell? ⟨w.heap.size + 2, 2, none⟩ = some (.string t'') ∧ w'.cell? ⟨w.heap.size + 2, 3, none⟩ = some (.slice a1'' l1'' c1'') ∧ w'.cell? ⟨w.heap.size + 2, 4, none⟩ = some (.slice a2'' l2'' c2'') ∧ w'.cell? ⟨w.heap.size + 2, 5, none⟩ = some (.slice a3'' l3'' c3'') ∧ w'.cell? ⟨w.heap.size + 2, 6, none⟩ = some (.slice a4'' l4'' c4'')))) (by kernel_rfl) ?_ (fun hHeld => ?_)
      · (try dsimp only)
        with_reducible exact ⟨BA.cells, BB.cells, BD.cells⟩
      refine take_to (i := 0) (d := 50) (v := ?_) rfl rfl (by kernel_rfl) (by kernel_rfl) (by kernel_rfl) (fun _ _ _ h => h) (Or.inl ⟨by kernel_rfl, ?_⟩) (by assumption) ?_
      case refine_2 =>
        intro w hSw
        (try dsimp only at hSw)
        go_simp
        (try with_reducible rfl)
      (try simp only [Act.put, List.setIfInBounds_toArray, List.set_cons_zero, List.set_cons_succ])
      refine take_to (i := 1) (d := 51) (v := ?_) rfl rfl (by kernel_rfl) (by kernel_rfl) (by kernel_rfl) (fun _ _ _ h => h) (Or.inl ⟨by kernel_rfl, ?_⟩) (by assumption) ?_
      case refine_2 =>
        intro w hSw
        (try dsimp only at hSw)
        go_simp
        (try with_reducible rfl)
      (try simp only [Act.put, List.setIfInBounds_toArray, List.set_cons_zero, List.set_cons_succ])
      refine take_to (i := 2) (d := 52) (v := ?_) rfl rfl (by kernel_rfl) (by kernel_rfl) (by kernel_rfl) (fun _ _ _ h => h) (Or.inl ⟨by kernel_rfl, ?_⟩) (by assumption) ?_
      case refine_2 =>
        intro w hSw
        (try dsimp only at hSw)
        go_simp
        (try with_reducible rfl)
      (try simp only [Act.put, List.setIfInBounds_toArray, List.set_cons_zero, List.set_cons_succ])
      refine wpAnyH_ready (rs := [3]) (by kernel_rfl) (by simp) ?_
      refine AllReadyH.cons rfl (fun K hK => ?_) AllReadyH.nil
      go_simp
      (go_at_call_of 15 (Value.agg #[.int .i64 k, .int .u64 b, .string t, .slice a1 l1 c1, .slice a2 l2 c2, .slice a3 l3 c3, .slice a4 l4 c4]); refine (FA.out _).mono ?_; rintro _ w2 ⟨rfl, hb⟩; have BA := BA.below hb; have BB := BB.below hb; have BD := BD.below hb; have HB := bt HB hb; have hL := hL.below hb; have TA := treeB TA hb; have TB := treeB TB hb; clear hb)
      refine hK.out _ _ ?_ (fun hHeld => ?_)
      · (try dsimp only)
        with_reducible exact ⟨BA.cells, BB.cells, BD.cells⟩
      clear hK K
      (try simp only [Act.put, List.setIfInBounds_toArray, List.set_cons_zero, List.set_cons_succ])
      refine take_to (i := 4) (d := 54) (v := ?_) rfl rfl (by kernel_rfl) (by kernel_rfl) (by kernel_rfl) (fun _ _ _ h => h) (Or.inl ⟨by kernel_rfl, ?_⟩) (by assumption) ?_
      case refine_2 =>
        intro w hSw
        (try dsimp only at hSw)
        go_simp
        (try with_reducible rfl)
      (try simp only [Act.put, List.setIfInBounds_toArray, List.set_cons_zero, List.set_cons_succ])
      refine take_to (i := 5) (d := 55) (v := undef) rfl rfl (by kernel_rfl) (by kernel_rfl) (by kernel_rfl) (fun _ _ _ h => h) (Or.inr ⟨by kernel_rfl, rfl⟩) (by assumption) ?_
      (try simp only [Act.put, List.setIfInBounds_toArray, List.set_cons_zero, List.set_cons_succ])
      refine take_to (i := 6) (d := 56) (v := undef) rfl rfl (by kernel_rfl) (by kernel_rfl) (by kernel_rfl) (fun _ _ _ h => h) (Or.inr ⟨by kernel_rfl, rfl⟩) (by assumption) ?_
      (try simp only [Act.put, List.setIfInBounds_toArray, List.set_cons_zero, List.set_cons_succ])
      refine take_to (i := 7) (d := 57) (v := undef) rfl rfl (by kernel_rfl) (by kernel_rfl) (by kernel_rfl) (fun _ _ _ h => h) (Or.inr ⟨by kernel_rfl, rfl⟩) (by assumption) ?_
      (try simp only [Act.put, List.setIfInBounds_toArray, List.set_cons_zero, List.set_cons_succ])
      refine take_to (i := 8) (d := 58) (v := undef) rfl rfl (by kernel_rfl) (by kernel_rfl) (by kernel_rfl) (fun _ _ _ h => h) (Or.inr ⟨by kernel_rfl, rfl⟩) (by assumption) ?_
      (try simp only [Act.put, List.setIfInBounds_toArray, List.set_cons_zero, List.set_cons_succ])
      refine take_to (i := 9) (d := 59) (v := .bool false) rfl rfl (by kernel_rfl) (by kernel_rfl) (by kernel_rfl) (fun _ _ _ h => h) (Or.inl ⟨by kernel_rfl, fun w hSw => by (try dsimp only at hSw); go_simp⟩) (by assumption) ?_
      (try simp only [Act.put, List.setIfInBounds_toArray, List.set_cons_zero, List.set_cons_succ])
      refine take_to (i := 10) (d := 60) (v := .bool false) rfl rfl (by kernel_rfl) (by kernel_rfl) (by kernel_rfl) (fun _ _ _ h => h) (Or.inl ⟨by kernel_rfl, fun w hSw => by (try dsimp only at hSw); go_simp⟩) (by assumption) ?_
      (try simp only [Act.put, List.setIfInBounds_toArray, List.set_cons_zero, List.set_cons_succ])
      refine take_to (i := 11) (d := 61) (v := undef) rfl rfl (by kernel_rfl) (by kernel_rfl) (by kernel_rfl) (fun _ _ _ h => h) (Or.inr ⟨by kernel_rfl, rfl⟩) (by assumption) ?_
      (try simp only [Act.put, List.setIfInBounds_toArray, List.set_cons_zero, List.set_cons_succ])
      refine take_to (i := 12) (d := 62) (v := undef) rfl rfl (by kernel_rfl) (by kernel_rfl) (by kernel_rfl) (fun _ _ _ h => h) (Or.inr ⟨by kernel_rfl, rfl⟩) (by assumption) ?_
      (try simp only [Act.put, List.setIfInBounds_toArray, List.set_cons_zero, List.set_cons_succ])
      refine take_to (i := 13) (d := 63) (v := undef) rfl rfl (by kernel_rfl) (by kernel_rfl) (by kernel_rfl) (fun _ _ _ h => h) (Or.inr ⟨by kernel_rfl, rfl⟩) (by assumption) ?_
      (try simp only [Act.put, List.setIfInBounds_toArray, List.set_cons_zero, List.set_cons_succ])
      refine take_to (i := 14) (d := 64) (v := undef) rfl rfl (by kernel_rfl) (by kernel_rfl) (by kernel_rfl) (fun _ _ _ h => h) (Or.inr ⟨by kernel_rfl, rfl⟩) (by assumption) ?_
      (try simp only [Act.put, List.setIfInBounds_toArray, List.set_cons_zero, List.set_cons_succ])
      refine take_to (i := 15) (d := 65) (v := undef) rfl rfl (by kernel_rfl) (by kernel_rfl) (by kernel_rfl) (fun _ _ _ h => h) (Or.inr ⟨by kernel_rfl, rfl⟩) (by assumption) ?_
      (try simp only [Act.put, List.setIfInBounds_toArray, List.set_cons_zero, List.set_cons_succ])
      refine take_to (i := 16) (d := 66) (v := undef) rfl rfl (by kernel_rfl) (by kernel_rfl) (by kernel_rfl) (fun _ _ _ h => h) (Or.inr ⟨by kernel_rfl, rfl⟩) (by assumption) ?_
      (try simp only [Act.put, List.setIfInBounds_toArray, List.set_cons_zero, List.set_cons_succ])
      refine take_to (i := 17) (d := 67) (v := undef) rfl rfl (by kernel_rfl) (by kernel_rfl) (by kernel_rfl) (fun _ _ _ h => h) (Or.inr ⟨by kernel_rfl, rfl⟩) (by assumption) ?_
      (try simp only [Act.put, List.setIfInBounds_toArray, List.set_cons_zero, List.set_cons_succ])
      refine take_to (i := 18) (d := 68) (v := undef) rfl rfl (by kernel_rfl) (by kernel_rfl) (by kernel_rfl) (fun _ _ _ h => h) (Or.inr ⟨by kernel_rfl, rfl⟩) (by assumption) ?_
      (try simp only [Act.put, List.setIfInBounds_toArray, List.set_cons_zero, List.set_cons_succ])
      refine take_to (i := 19) (d := 69) (v := .bool false) rfl rfl (by kernel_rfl) (by kernel_rfl) (by kernel_rfl) (fun _ _ _ h => h) (Or.inl ⟨by kernel_rfl, fun w hSw => by (try dsimp only at hSw); go_simp⟩) (by assumption) ?_
      (try simp only [Act.put, List.setIfInBounds_toArray, List.set_cons_zero, List.set_cons_succ])
      refine wpAnyH_done (by kernel_rfl) ?_ _
      all_goals
        go_wp2_with (go_at_call 9; refine (awake_any _ hL).mono ?_; rintro _ w2 ⟨rfl, hb⟩)
        go_ret
        exact ⟨rfl, bt HB hb⟩
    | true =>
      cases fB with
      | false =>
        refine wp_region_held_drew (S := (fun w' => (w'.cell? ⟨w.heap.size, 0, none⟩ = some (.int .i64 k) ∧ w'.cell? ⟨w.heap.size, 1, none⟩ = some (.int .u64 b) ∧ w'.cell? ⟨w.heap.size, 2, none⟩ = some (.string t) ∧ w'.cell? ⟨w.heap.size, 3, none⟩ = some (.slice a1 l1 c1) ∧ w'.cell? ⟨w.heap.size, 4, none⟩ = some (.slice a2 l2 c2) ∧ w'.cell? ⟨w.heap.size, 5, none⟩ = some (.slice a3 l3 c3) ∧ w'.cell? ⟨w.heap.size, 6, none⟩ = some (.slice a4 l4 c4)) ∧ (w'.cell? ⟨w.heap.size + 1, 0, none⟩ = some (.int .i64 k') ∧ w'.cell? ⟨w.heap.size + 1, 1, none⟩ = some (.int .u64 b') ∧ w'.cell? ⟨w.heap.size + 1, 2, none⟩ = some (.string t') ∧ w'.cell? ⟨w.heap.size + 1, 3, none⟩ = some (.slice a1' l1' c1') ∧ w'.cell? ⟨w.heap.size + 1, 4, none⟩ = some (.slice a2' l2' c2') ∧ w'.cell? ⟨w.heap.size + 1, 5, none⟩ = some (.slice a3' l3' c3') ∧ w'.cell? ⟨w.heap.size + 1, 6, none⟩ = some (.slice a4' l4' c4')) ∧ (w'.cell? ⟨w.heap.size + 2, 0, none⟩ = some (.int .i64 k'') ∧ w'.cell? ⟨w.heap.size + 2, 1, none⟩ = some (.int .u64 b'') ∧ w'.cell? ⟨w.heap.size + 2, 2, none⟩ = some (.string t'') ∧ w'.cell? ⟨w.heap.size + 2, 3, none⟩ = some (.slice a1'' l1'' c1'') ∧ w'.cell? ⟨w.heap.size + 2, 4, none⟩ = some (.slice a2'' l2'' c2'') ∧ w'.cell? ⟨w.heap.size + 2, 5, none⟩ = some (.slice a3'' l3'' c3'') ∧ w'.cell? ⟨w.heap.size + 2, 6, none⟩ = some (.slice a4'' l4'' c4'')))) (by kernel_rfl) ?_ (fun hHeld => ?_)
        · (try dsimp only)
          with_reducible exact ⟨BA.cells, BB.cells, BD.cells⟩
        refine take_to (i := 0) (d := 50) (v := ?_) rfl rfl (by kernel_rfl) (by kernel_rfl) (by kernel_rfl) (fun _ _ _ h => h) (Or.inl ⟨by kernel_rfl, ?_⟩) (by assumption) ?_
        case refine_2 =>
          intro w hSw
          (try dsimp only at hSw)
          go_simp
          (try with_reducible rfl)
        (try simp only [Act.put, List.setIfInBounds_toArray, List.set_cons_zero, List.set_cons_succ])
        refine take_to (i := 1) (d := 51) (v := ?_) rfl rfl (by kernel_rfl) (by kernel_rfl) (by kernel_rfl) (fun _ _ _ h => h) (Or.inl ⟨by kernel_rfl, ?_⟩) (by assumption) ?_
        case refine_2 =>
          intro w hSw
          (try dsimp only at hSw)
          go_simp
          (try with_reducible rfl)
        (try simp only [Act.put, List.setIfInBounds_toArray, List.set_cons_zero, List.set_cons_succ])
        refine take_to (i := 2) (d := 52) (v := ?_) rfl rfl (by kernel_rfl) (by kernel_rfl) (by kernel_rfl) (fun _ _ _ h => h) (Or.inl ⟨by kernel_rfl, ?_⟩) (by assumption) ?_
        case refine_2 =>
          intro w hSw
          (try dsimp only at hSw)
          go_simp
          (try with_reducible rfl)
        (try simp only [Act.put, List.setIfInBounds_toArray, List.set_cons_zero, List.set_cons_succ])
        refine wpAnyH_ready (rs := [3]) (by kernel_rfl) (by simp) ?_
        refine AllReadyH.cons rfl (fun K hK => ?_) AllReadyH.nil
        go_simp
        (go_at_call_of 15 (Value.agg #[.int .i64 k, .int .u64 b, .string t, .slice a1 l1 c1, .slice a2 l2 c2, .slice a3 l3 c3, .slice a4 l4 c4]); refine (FA.out _).mono ?_; rintro _ w2 ⟨rfl, hb⟩; have BA := BA.below hb; have BB := BB.below hb; have BD := BD.below hb; have HB := bt HB hb; have hL := hL.below hb; have TA := treeB TA hb; have TB := treeB TB hb; clear hb)
        refine hK.out _ _ ?_ (fun hHeld => ?_)
        · (try dsimp only)
          with_reducible exact ⟨BA.cells, BB.cells, BD.cells⟩
        clear hK K
        (try simp only [Act.put, List.setIfInBounds_toArray, List.set_cons_zero, List.set_cons_succ])
        refine take_to (i := 4) (d := 54) (v := ?_) rfl rfl (by kernel_rfl) (by kernel_rfl) (by kernel_rfl) (fun _ _ _ h => h) (Or.inl ⟨by kernel_rfl, ?_⟩) (by assumption) ?_
        case refine_2 =>
          intro w hSw
          (try dsimp only at hSw)
          go_simp
          (try with_reducible rfl)
        (try simp only [Act.put, List.setIfInBounds_toArray, List.set_cons_zero, List.set_cons_succ])
        refine take_to (i := 5) (d := 55) (v := ?_) rfl rfl (by kernel_rfl) (by kernel_rfl) (by kernel_rfl) (fun _ _ _ h => h) (Or.inl ⟨by kernel_rfl, ?_⟩) (by assumption) ?_
        case refine_2 =>
          intro w hSw
          (try dsimp only at hSw)
          go_simp
          (try with_reducible rfl)
        (try simp only [Act.put, List.setIfInBounds_toArray, List.set_cons_zero, List.set_cons_succ])
        refine take_to (i := 6) (d := 56) (v := ?_) rfl rfl (by kernel_rfl) (by kernel_rfl) (by kernel_rfl) (fun _ _ _ h => h) (Or.inl ⟨by kernel_rfl, ?_⟩) (by assumption) ?_
        case refine_2 =>
          intro w hSw
          (try dsimp only at hSw)
          go_simp
          (try with_reducible rfl)
        (try simp only [Act.put, List.setIfInBounds_toArray, List.set_cons_zero, List.set_cons_succ])
        refine take_to (i := 7) (d := 57) (v := ?_) rfl rfl (by kernel_rfl) (by kernel_rfl) (by kernel_rfl) (fun _ _ _ h => h) (Or.inl ⟨by kernel_rfl, ?_⟩) (by assumption) ?_
        case refine_2 =>
          intro w hSw
          (try dsimp only at hSw)
          go_simp
          (try with_reducible rfl)
        (try simp only [Act.put, List.setIfInBounds_toArray, List.set_cons_zero, List.set_cons_succ])
        refine wpAnyH_ready (rs := [8]) (by kernel_rfl) (by simp) ?_
        refine AllReadyH.cons rfl (fun K hK => ?_) AllReadyH.nil
        go_simp
        (go_at_call_of 15 (Value.agg #[.int .i64 k', .int .u64 b', .string t', .slice a1' l1' c1', .slice a2' l2' c2', .slice a3' l3' c3', .slice a4' l4' c4']); refine (FB.out _).mono ?_; rintro _ w2 ⟨rfl, hb⟩; have BA := BA.below hb; have BB := BB.below hb; have BD := BD.below hb; have HB := bt HB hb; have hL := hL.below hb; have TA := treeB TA hb; have TB := treeB TB hb; clear hb)
        refine hK.out _ _ ?_ (fun hHeld => ?_)
        · (try dsimp only)
          with_reducible exact ⟨BA.cells, BB.cells, BD.cells⟩
        clear hK K
        (try simp only [Act.put, List.setIfInBounds_toArray, List.set_cons_zero, List.set_cons_succ])
        refine take_to (i := 9) (d := 59) (v := .bool false) rfl rfl (by kernel_rfl) (by kernel_rfl) (by kernel_rfl) (fun _ _ _ h => h) (Or.inl ⟨by kernel_rfl, fun w hSw => by (try dsimp only at hSw); go_simp⟩) (by assumption) ?_
        (try simp only [Act.put, List.setIfInBounds_toArray, List.set_cons_zero, List.set_cons_succ])
        refine take_to (i := 10) (d := 60) (v := .bool false) rfl rfl (by kernel_rfl) (by kernel_rfl) (by kernel_rfl) (fun _ _ _ h => h) (Or.inl ⟨by kernel_rfl, fun w hSw => by (try dsimp only at hSw); go_simp⟩) (by assumption) ?_
        (try simp only [Act.put, List.setIfInBounds_toArray, List.set_cons_zero, List.set_cons_succ])
        refine take_to (i := 11) (d := 61) (v := undef) rfl rfl (by kernel_rfl) (by kernel_rfl) (by kernel_rfl) (fun _ _ _ h => h) (Or.inr ⟨by kernel_rfl, rfl⟩) (by assumption) ?_
        (try simp only [Act.put, List.setIfInBounds_toArray, List.set_cons_zero, List.set_cons_succ])
        refine take_to (i := 12) (d := 62) (v := undef) rfl rfl (by kernel_rfl) (by kernel_rfl) (by kernel_rfl) (fun _ _ _ h => h) (Or.inr ⟨by kernel_rfl, rfl⟩) (by assumption) ?_
        (try simp only [Act.put, List.setIfInBounds_toArray, List.set_cons_zero, List.set_cons_succ])
        refine take_to (i := 13) (d := 63) (v := undef) rfl rfl (by kernel_rfl) (by kernel_rfl) (by kernel_rfl) (fun _ _ _ h => h) (Or.inr ⟨by kernel_rfl, rfl⟩) (by assumption) ?_
        (try simp only [Act.put, List.setIfInBounds_toArray, List.set_cons_zero, List.set_cons_succ])
        refine take_to (i := 14) (d := 64) (v := undef) rfl rfl (by kernel_rfl) (by kernel_rfl) (by kernel_rfl) (fun _ _ _ h => h) (Or.inr ⟨by kernel_rfl, rfl⟩) (by assumption) ?_
        (try simp only [Act.put, List.setIfInBounds_toArray, List.set_cons_zero, List.set_cons_succ])
        refine take_to (i := 15) (d := 65) (v := undef) rfl rfl (by kernel_rfl) (by kernel_rfl) (by kernel_rfl) (fun _ _ _ h => h) (Or.inr ⟨by kernel_rfl, rfl⟩) (by assumption) ?_
        (try simp only [Act.put, List.setIfInBounds_toArray, List.set_cons_zero, List.set_cons_succ])
        refine take_to (i := 16) (d := 66) (v := undef) rfl rfl (by kernel_rfl) (by kernel_rfl) (by kernel_rfl) (fun _ _ _ h => h) (Or.inr ⟨by kernel_rfl, rfl⟩) (by assumption) ?_
        (try simp only [Act.put, List.setIfInBounds_toArray, List.set_cons_zero, List.set_cons_succ])
        refine take_to (i := 17) (d := 67) (v := undef) rfl rfl (by kernel_rfl) (by kernel_rfl) (by kernel_rfl) (fun _ _ _ h => h) (Or.inr ⟨by kernel_rfl, rfl⟩) (by assumption) ?_
        (try simp only [Act.put, List.setIfInBounds_toArray, List.set_cons_zero, List.set_cons_succ])
        refine take_to (i := 18) (d := 68) (v := undef) rfl rfl (by kernel_rfl) (by kernel_rfl) (by kernel_rfl) (fun _ _ _ h => h) (Or.inr ⟨by kernel_rfl, rfl⟩) (by assumption) ?_
        (try simp only [Act.put, List.setIfInBounds_toArray, List.set_cons_zero, List.set_cons_succ])
        refine take_to (i := 19) (d := 69) (v := .bool false) rfl rfl (by kernel_rfl) (by kernel_rfl) (by kernel_rfl) (fun _ _ _ h => h) (Or.inl ⟨by kernel_rfl, fun w hSw => by (try dsimp only at hSw); go_simp⟩) (by assumption) ?_
        (try simp only [Act.put, List.setIfInBounds_toArray, List.set_cons_zero, List.set_cons_succ])
        refine wpAnyH_done (by kernel_rfl) ?_ _
        all_goals
          go_wp2_with (go_at_call 9; refine (awake_any _ hL).mono ?_; rintro _ w2 ⟨rfl, hb⟩)
          go_ret
          exact ⟨rfl, bt HB hb⟩
      | true =>
        go_region_held3 (fun w' => (w'.cell? ⟨w.heap.size, 0, none⟩ = some (.int .i64 k) ∧ w'.cell? ⟨w.heap.size, 1, none⟩ = some (.int .u64 b) ∧ w'.cell? ⟨w.heap.size, 2, none⟩ = some (.string t) ∧ w'.cell? ⟨w.heap.size, 3, none⟩ = some (.slice a1 l1 c1) ∧ w'.cell? ⟨w.heap.size, 4, none⟩ = some (.slice a2 l2 c2) ∧ w'.cell? ⟨w.heap.size, 5, none⟩ = some (.slice a3 l3 c3) ∧ w'.cell? ⟨w.heap.size, 6, none⟩ = some (.slice a4 l4 c4)) ∧ (w'.cell? ⟨w.heap.size + 1, 0, none⟩ = some (.int .i64 k') ∧ w'.cell? ⟨w.heap.size + 1, 1, none⟩ = some (.int .u64 b') ∧ w'.cell? ⟨w.heap.size + 1, 2, none⟩ = some (.string t') ∧ w'.cell? ⟨w.heap.size + 1, 3, none⟩ = some (.slice a1' l1' c1') ∧ w'.cell? ⟨w.heap.size + 1, 4, none⟩ = some (.slice a2' l2' c2') ∧ w'.cell? ⟨w.heap.size + 1, 5, none⟩ = some (.slice a3' l3' c3') ∧ w'.cell? ⟨w.heap.size + 1, 6, none⟩ = some (.slice a4' l4' c4')) ∧ (w'.cell? ⟨w.heap.size + 2, 0, none⟩ = some (.int .i64 k'') ∧ w'.cell? ⟨w.heap.size + 2, 1, none⟩ = some (.int .u64 b'') ∧ w'.cell? ⟨w.heap.size + 2, 2, none⟩ = some (.string t'') ∧ w'.cell? ⟨w.heap.size + 2, 3, none⟩ = some (.slice a1'' l1'' c1'') ∧ w'.cell? ⟨w.heap.size + 2, 4, none⟩ = some (.slice a2'' l2'' c2'') ∧ w'.cell? ⟨w.heap.size + 2, 5, none⟩ = some (.slice a3'' l3'' c3'') ∧ w'.cell? ⟨w.heap.size + 2, 6, none⟩ = some (.slice a4'' l4'' c4''))) (with_reducible exact ⟨BA.cells, BB.cells, BD.cells⟩)
          (first
            | (go_at_call_of 15 (Value.agg #[.int .i64 k, .int .u64 b, .string t, .slice a1 l1 c1, .slice a2 l2 c2, .slice a3 l3 c3, .slice a4 l4 c4]); refine (FA.out _).mono ?_; rintro _ w2 ⟨rfl, hb⟩; have BA := BA.below hb; have BB := BB.below hb; have BD := BD.below hb; have HB := bt HB hb; have hL := hL.below hb; have TA := treeB TA hb; have TB := treeB TB hb; clear hb)
            | (go_at_call_of 15 (Value.agg #[.int .i64 k', .int .u64 b', .string t', .slice a1' l1' c1', .slice a2' l2' c2', .slice a3' l3' c3', .slice a4' l4' c4']); refine (FB.out _).mono ?_; rintro _ w2 ⟨rfl, hb⟩; have BA := BA.below hb; have BB := BB.below hb; have BD := BD.below hb; have HB := bt HB hb; have hL := hL.below hb; have TA := treeB TA hb; have TB := treeB TB hb; clear hb)
            | (go_at_call_of 13 (Value.agg #[.int .i64 k, .int .u64 b, .string t, .slice a1 l1 c1, .slice a2 l2 c2, .slice a3 l3 c3, .slice a4 l4 c4]); refine (norm_p n ⟨k, b, t, a1, l1, c1, a2, l2, c2, a3, l3, c3, a4, l4, c4⟩ _ TA).mono ?_; rintro _ w2 ⟨x, rfl, hx, tx, hb⟩; have BA := BA.below hb; have BB := BB.below hb; have BD := BD.below hb; have HB := bt HB hb; have hL := hL.below hb; have TA := treeB TA hb; have TB := treeB TB hb; clear hb; have HX := Lib.hid hx; clear hx tx; obtain ⟨xk, xb, xt, xa1, xl1, xc1, xa2, xl2, xc2, xa3, xl3, xc3, xa4, xl4, xc4⟩ := x; simp only [vv])
            | (go_at_call_of 13 (Value.agg #[.int .i64 k', .int .u64 b', .string t', .slice a1' l1' c1', .slice a2' l2' c2', .slice a3' l3' c3', .slice a4' l4' c4']); refine (norm_p n' ⟨k', b', t', a1', l1', c1', a2', l2', c2', a3', l3', c3', a4', l4', c4'⟩ _ TB).mono ?_; rintro _ w2 ⟨y, rfl, hy, ty, hb⟩; have BA := BA.below hb; have BB := BB.below hb; have BD := BD.below hb; have HB := bt HB hb; have hL := hL.below hb; have TA := treeB TA hb; have TB := treeB TB hb; clear hb; have HY := Lib.hid hy; clear hy ty; obtain ⟨yk, yb, yt, ya1, yl1, yc1, ya2, yl2, yc2, ya3, yl3, yc3, ya4, yl4, yc4⟩ := y; simp only [vv])
            | (go_at_call 12; refine (same_any ⟨xk, xb, xt, xa1, xl1, xc1, xa2, xl2, xc2, xa3, xl3, xc3, xa4, xl4, xc4⟩ ⟨yk, yb, yt, ya1, yl1, yc1, ya2, yl2, yc2, ya3, yl3, yc3, ya4, yl4, yc4⟩ _).mono ?_; rintro _ w2 ⟨rfl, hb⟩; rw [show sameB (sc ⟨xk, xb, xt, xa1, xl1, xc1, xa2, xl2, xc2, xa3, xl3, xc3, xa4, xl4, xc4⟩) (sc ⟨yk, yb, yt, ya1, yl1, yc1, ya2, yl2, yc2, ya3, yl3, yc3, ya4, yl4, yc4⟩) = false from (by rw [HX.out, HY.out]; exact (SM.out (by trivial) (by trivial)).trans (by decide))]; have BA := BA.below hb; have BB := BB.below hb; have BD := BD.below hb; have HB := bt HB hb; have hL := hL.below hb; have TA := treeB TA hb; have TB := treeB TB hb; clear hb))
        all_goals
          go_wp2_with (go_at_call 9; refine (awake_any _ hL).mono ?_; rintro _ w2 ⟨rfl, hb⟩)
          go_ret
          exact ⟨rfl, bt HB hb⟩
  · go_wp2_with fail
    have BA := BA.drew
    have BB := BB.drew
    have BD := BD.drew
    have TA := treeB TA (Below.refl _ _).drew
    have TB := treeB TB (Below.refl _ _).drew
    have hL := hL.below (Below.refl _ _).drew
    have HB := HB.drew
    cases fA with
    | false =>
      refine wp_region_held_drew (S := (fun w' => (w'.cell? ⟨w.heap.size, 0, none⟩ = some (.int .i64 k) ∧ w'.cell? ⟨w.heap.size, 1, none⟩ = some (.int .u64 b) ∧ w'.cell? ⟨w.heap.size, 2, none⟩ = some (.string t) ∧ w'.cell? ⟨w.heap.size, 3, none⟩ = some (.slice a1 l1 c1) ∧ w'.cell? ⟨w.heap.size, 4, none⟩ = some (.slice a2 l2 c2) ∧ w'.cell? ⟨w.heap.size, 5, none⟩ = some (.slice a3 l3 c3) ∧ w'.cell? ⟨w.heap.size, 6, none⟩ = some (.slice a4 l4 c4)) ∧ (w'.cell? ⟨w.heap.size + 1, 0, none⟩ = some (.int .i64 k') ∧ w'.cell? ⟨w.heap.size + 1, 1, none⟩ = some (.int .u64 b') ∧ w'.cell? ⟨w.heap.size + 1, 2, none⟩ = some (.string t') ∧ w'.cell? ⟨w.heap.size + 1, 3, none⟩ = some (.slice a1' l1' c1') ∧ w'.cell? ⟨w.heap.size + 1, 4, none⟩ = some (.slice a2' l2' c2') ∧ w'.cell? ⟨w.heap.size + 1, 5, none⟩ = some (.slice a3' l3' c3') ∧ w'.cell? ⟨w.heap.size + 1, 6, none⟩ = some (.slice a4' l4' c4')) ∧ (w'.cell? ⟨w.heap.size + 2, 0, none⟩ = some (.int .i64 k'') ∧ w'.cell? ⟨w.heap.size + 2, 1, none⟩ = some (.int .u64 b'') ∧ w'.cell? ⟨w.heap.size + 2, 2, none⟩ = some (.string t'') ∧ w'.cell? ⟨w.heap.size + 2, 3, none⟩ = some (.slice a1'' l1'' c1'') ∧ w'.cell? ⟨w.heap.size + 2, 4, none⟩ = some (.slice a2'' l2'' c2'') ∧ w'.cell? ⟨w.heap.size + 2, 5, none⟩ = some (.slice a3'' l3'' c3'') ∧ w'.cell? ⟨w.heap.size + 2, 6, none⟩ = some (.slice a4'' l4'' c4'')))) (by kernel_rfl) ?_ (fun hHeld => ?_)
      · (try dsimp only)
        with_reducible exact ⟨BA.cells, BB.cells, BD.cells⟩
      refine take_to (i := 0) (d := 50) (v := ?_) rfl rfl (by kernel_rfl) (by kernel_rfl) (by kernel_rfl) (fun _ _ _ h => h) (Or.inl ⟨by kernel_rfl, ?_⟩) (by assumption) ?_
      case refine_2 =>
        intro w hSw
        (try dsimp only at hSw)
        go_simp
        (try with_reducible rfl)
      (try simp only [Act.put, List.setIfInBounds_toArray, List.set_cons_zero, List.set_cons_succ])
      refine take_to (i := 1) (d := 51) (v := ?_) rfl rfl (by kernel_rfl) (by kernel_rfl) (by kernel_rfl) (fun _ _ _ h => h) (Or.inl ⟨by kernel_rfl, ?_⟩) (by assumption) ?_
      case refine_2 =>
        intro w hSw
        (try dsimp only at hSw)
        go_simp
        (try with_reducible rfl)
      (try simp only [Act.put, List.setIfInBounds_toArray, List.set_cons_zero, List.set_cons_succ])
      refine take_to (i := 2) (d := 52) (v := ?_) rfl rfl (by kernel_rfl) (by kernel_rfl) (by kernel_rfl) (fun _ _ _ h => h) (Or.inl ⟨by kernel_rfl, ?_⟩) (by assumption) ?_
      case refine_2 =>
        intro w hSw
        (try dsimp only at hSw)
        go_simp
        (try with_reducible rfl)
      (try simp only [Act.put, List.setIfInBounds_toArray, List.set_cons_zero, List.set_cons_succ])
      refine wpAnyH_ready (rs := [3]) (by kernel_rfl) (by simp) ?_
      refine AllReadyH.cons rfl (fun K hK => ?_) AllReadyH.nil
      go_simp
      (go_at_call_of 15 (Value.agg #[.int .i64 k, .int .u64 b, .string t, .slice a1 l1 c1, .slice a2 l2 c2, .slice a3 l3 c3, .slice a4 l4 c4]); refine (FA.out _).mono ?_; rintro _ w2 ⟨rfl, hb⟩; have BA := BA.below hb; have BB := BB.below hb; have BD := BD.below hb; have HB := bt HB hb; have hL := hL.below hb; have TA := treeB TA hb; have TB := treeB TB hb; clear hb)
      refine hK.out _ _ ?_ (fun hHeld => ?_)
      · (try dsimp only)
        with_reducible exact ⟨BA.cells, BB.cells, BD.cells⟩
      clear hK K
      (try simp only [Act.put, List.setIfInBounds_toArray, List.set_cons_zero, List.set_cons_succ])
      refine take_to (i := 4) (d := 54) (v := ?_) rfl rfl (by kernel_rfl) (by kernel_rfl) (by kernel_rfl) (fun _ _ _ h => h) (Or.inl ⟨by kernel_rfl, ?_⟩) (by assumption) ?_
      case refine_2 =>
        intro w hSw
        (try dsimp only at hSw)
        go_simp
        (try with_reducible rfl)
      (try simp only [Act.put, List.setIfInBounds_toArray, List.set_cons_zero, List.set_cons_succ])
      refine take_to (i := 5) (d := 55) (v := undef) rfl rfl (by kernel_rfl) (by kernel_rfl) (by kernel_rfl) (fun _ _ _ h => h) (Or.inr ⟨by kernel_rfl, rfl⟩) (by assumption) ?_
      (try simp only [Act.put, List.setIfInBounds_toArray, List.set_cons_zero, List.set_cons_succ])
      refine take_to (i := 6) (d := 56) (v := undef) rfl rfl (by kernel_rfl) (by kernel_rfl) (by kernel_rfl) (fun _ _ _ h => h) (Or.inr ⟨by kernel_rfl, rfl⟩) (by assumption) ?_
      (try simp only [Act.put, List.setIfInBounds_toArray, List.set_cons_zero, List.set_cons_succ])
      refine take_to (i := 7) (d := 57) (v := undef) rfl rfl (by kernel_rfl) (by kernel_rfl) (by kernel_rfl) (fun _ _ _ h => h) (Or.inr ⟨by kernel_rfl, rfl⟩) (by assumption) ?_
      (try simp only [Act.put, List.setIfInBounds_toArray, List.set_cons_zero, List.set_cons_succ])
      refine take_to (i := 8) (d := 58) (v := undef) rfl rfl (by kernel_rfl) (by kernel_rfl) (by kernel_rfl) (fun _ _ _ h => h) (Or.inr ⟨by kernel_rfl, rfl⟩) (by assumption) ?_
      (try simp only [Act.put, List.setIfInBounds_toArray, List.set_cons_zero, List.set_cons_succ])
      refine take_to (i := 9) (d := 59) (v := .bool false) rfl rfl (by kernel_rfl) (by kernel_rfl) (by kernel_rfl) (fun _ _ _ h => h) (Or.inl ⟨by kernel_rfl, fun w hSw => by (try dsimp only at hSw); go_simp⟩) (by assumption) ?_
      (try simp only [Act.put, List.setIfInBounds_toArray, List.set_cons_zero, List.set_cons_succ])
      refine take_to (i := 10) (d := 60) (v := .bool false) rfl rfl (by kernel_rfl) (by kernel_rfl) (by kernel_rfl) (fun _ _ _ h => h) (Or.inl ⟨by kernel_rfl, fun w hSw => by (try dsimp only at hSw); go_simp⟩) (by assumption) ?_
      (try simp only [Act.put, List.setIfInBounds_toArray, List.set_cons_zero, List.set_cons_succ])
      refine take_to (i := 11) (d := 61) (v := undef) rfl rfl (by kernel_rfl) (by kernel_rfl) (by kernel_rfl) (fun _ _ _ h => h) (Or.inr ⟨by kernel_rfl, rfl⟩) (by assumption) ?_
      (try simp only [Act.put, List.setIfInBounds_toArray, List.set_cons_zero, List.set_cons_succ])
      refine take_to (i := 12) (d := 62) (v := undef) rfl rfl (by kernel_rfl) (by kernel_rfl) (by kernel_rfl) (fun _ _ _ h => h) (Or.inr ⟨by kernel_rfl, rfl⟩) (by assumption) ?_
      (try simp only [Act.put, List.setIfInBounds_toArray, List.set_cons_zero, List.set_cons_succ])
      refine take_to (i := 13) (d := 63) (v := undef) rfl rfl (by kernel_rfl) (by kernel_rfl) (by kernel_rfl) (fun _ _ _ h => h) (Or.inr ⟨by kernel_rfl, rfl⟩) (by assumption) ?_
      (try simp only [Act.put, List.setIfInBounds_toArray, List.set_cons_zero, List.set_cons_succ])
      refine take_to (i := 14) (d := 64) (v := undef) rfl rfl (by kernel_rfl) (by kernel_rfl) (by kernel_rfl) (fun _ _ _ h => h) (Or.inr ⟨by kernel_rfl, rfl⟩) (by assumption) ?_
      (try simp only [Act.put, List.setIfInBounds_toArray, List.set_cons_zero, List.set_cons_succ])
      refine take_to (i := 15) (d := 65) (v := undef) rfl rfl (by kernel_rfl) (by kernel_rfl) (by kernel_rfl) (fun _ _ _ h => h) (Or.inr ⟨by kernel_rfl, rfl⟩) (by assumption) ?_
      (try simp only [Act.put, List.setIfInBounds_toArray, List.set_cons_zero, List.set_cons_succ])
      refine take_to (i := 16) (d := 66) (v := undef) rfl rfl (by kernel_rfl) (by kernel_rfl) (by kernel_rfl) (fun _ _ _ h => h) (Or.inr ⟨by kernel_rfl, rfl⟩) (by assumption) ?_
      (try simp only [Act.put, List.setIfInBounds_toArray, List.set_cons_zero, List.set_cons_succ])
      refine take_to (i := 17) (d := 67) (v := undef) rfl rfl (by kernel_rfl) (by kernel_rfl) (by kernel_rfl) (fun _ _ _ h => h) (Or.inr ⟨by kernel_rfl, rfl⟩) (by assumption) ?_
      (try simp only [Act.put, List.setIfInBounds_toArray, List.set_cons_zero, List.set_cons_succ])
      refine take_to (i := 18) (d := 68) (v := undef) rfl rfl (by kernel_rfl) (by kernel_rfl) (by kernel_rfl) (fun _ _ _ h => h) (Or.inr ⟨by kernel_rfl, rfl⟩) (by assumption) ?_
      (try simp only [Act.put, List.setIfInBounds_toArray, List.set_cons_zero, List.set_cons_succ])
      refine take_to (i := 19) (d := 69) (v := .bool false) rfl rfl (by kernel_rfl) (by kernel_rfl) (by kernel_rfl) (fun _ _ _ h => h) (Or.inl ⟨by kernel_rfl, fun w hSw => by (try dsimp only at hSw); go_simp⟩) (by assumption) ?_
      (try simp only [Act.put, List.setIfInBounds_toArray, List.set_cons_zero, List.set_cons_succ])
      refine wpAnyH_done (by kernel_rfl) ?_ _
      all_goals
        go_wp2_with (go_at_call 9; refine (awake_any _ hL).mono ?_; rintro _ w2 ⟨rfl, hb⟩)
        go_ret
        exact ⟨rfl, bt HB hb⟩
    | true =>
      cases fB with
      | false =>
        refine wp_region_held_drew (S := (fun w' => (w'.cell? ⟨w.heap.size, 0, none⟩ = some (.int .i64 k) ∧ w'.cell? ⟨w.heap.size, 1, none⟩ = some (.int .u64 b) ∧ w'.cell? ⟨w.heap.size, 2, none⟩ = some (.string t) ∧ w'.cell? ⟨w.heap.size, 3, none⟩ = some (.slice a1 l1 c1) ∧ w'.cell? ⟨w.heap.size, 4, none⟩ = some (.slice a2 l2 c2) ∧ w'.cell? ⟨w.heap.size, 5, none⟩ = some (.slice a3 l3 c3) ∧ w'.cell? ⟨w.heap.size, 6, none⟩ = some (.slice a4 l4 c4)) ∧ (w'.cell? ⟨w.heap.size + 1, 0, none⟩ = some (.int .i64 k') ∧ w'.cell? ⟨w.heap.size + 1, 1, none⟩ = some (.int .u64 b') ∧ w'.cell? ⟨w.heap.size + 1, 2, none⟩ = some (.string t') ∧ w'.cell? ⟨w.heap.size + 1, 3, none⟩ = some (.slice a1' l1' c1') ∧ w'.cell? ⟨w.heap.size + 1, 4, none⟩ = some (.slice a2' l2' c2') ∧ w'.cell? ⟨w.heap.size + 1, 5, none⟩ = some (.slice a3' l3' c3') ∧ w'.cell? ⟨w.heap.size + 1, 6, none⟩ = some (.slice a4' l4' c4')) ∧ (w'.cell? ⟨w.heap.size + 2, 0, none⟩ = some (.int .i64 k'') ∧ w'.cell? ⟨w.heap.size + 2, 1, none⟩ = some (.int .u64 b'') ∧ w'.cell? ⟨w.heap.size + 2, 2, none⟩ = some (.string t'') ∧ w'.cell? ⟨w.heap.size + 2, 3, none⟩ = some (.slice a1'' l1'' c1'') ∧ w'.cell? ⟨w.heap.size + 2, 4, none⟩ = some (.slice a2'' l2'' c2'') ∧ w'.cell? ⟨w.heap.size + 2, 5, none⟩ = some (.slice a3'' l3'' c3'') ∧ w'.cell? ⟨w.heap.size + 2, 6, none⟩ = some (.slice a4'' l4'' c4'')))) (by kernel_rfl) ?_ (fun hHeld => ?_)
        · (try dsimp only)
          with_reducible exact ⟨BA.cells, BB.cells, BD.cells⟩
        refine take_to (i := 0) (d := 50) (v := ?_) rfl rfl (by kernel_rfl) (by kernel_rfl) (by kernel_rfl) (fun _ _ _ h => h) (Or.inl ⟨by kernel_rfl, ?_⟩) (by assumption) ?_
        case refine_2 =>
          intro w hSw
          (try dsimp only at hSw)
          go_simp
          (try with_reducible rfl)
        (try simp only [Act.put, List.setIfInBounds_toArray, List.set_cons_zero, List.set_cons_succ])
        refine take_to (i := 1) (d := 51) (v := ?_) rfl rfl (by kernel_rfl) (by kernel_rfl) (by kernel_rfl) (fun _ _ _ h => h) (Or.inl ⟨by kernel_rfl, ?_⟩) (by assumption) ?_
        case refine_2 =>
          intro w hSw
          (try dsimp only at hSw)
          go_simp
          (try with_reducible rfl)
        (try simp only [Act.put, List.setIfInBounds_toArray, List.set_cons_zero, List.set_cons_succ])
        refine take_to (i := 2) (d := 52) (v := ?_) rfl rfl (by kernel_rfl) (by kernel_rfl) (by kernel_rfl) (fun _ _ _ h => h) (Or.inl ⟨by kernel_rfl, ?_⟩) (by assumption) ?_
        case refine_2 =>
          intro w hSw
          (try dsimp only at hSw)
          go_simp
          (try with_reducible rfl)
        (try simp only [Act.put, List.setIfInBounds_toArray, List.set_cons_zero, List.set_cons_succ])
        refine wpAnyH_ready (rs := [3]) (by kernel_rfl) (by simp) ?_
        refine AllReadyH.cons rfl (fun K hK => ?_) AllReadyH.nil
        go_simp
        (go_at_call_of 15 (Value.agg #[.int .i64 k, .int .u64 b, .string t, .slice a1 l1 c1, .slice a2 l2 c2, .slice a3 l3 c3, .slice a4 l4 c4]); refine (FA.out _).mono ?_; rintro _ w2 ⟨rfl, hb⟩; have BA := BA.below hb; have BB := BB.below hb; have BD := BD.below hb; have HB := bt HB hb; have hL := hL.below hb; have TA := treeB TA hb; have TB := treeB TB hb; clear hb)
        refine hK.out _ _ ?_ (fun hHeld => ?_)
        · (try dsimp only)
          with_reducible exact ⟨BA.cells, BB.cells, BD.cells⟩
        clear hK K
        (try simp only [Act.put, List.setIfInBounds_toArray, List.set_cons_zero, List.set_cons_succ])
        refine take_to (i := 4) (d := 54) (v := ?_) rfl rfl (by kernel_rfl) (by kernel_rfl) (by kernel_rfl) (fun _ _ _ h => h) (Or.inl ⟨by kernel_rfl, ?_⟩) (by assumption) ?_
        case refine_2 =>
          intro w hSw
          (try dsimp only at hSw)
          go_simp
          (try with_reducible rfl)
        (try simp only [Act.put, List.setIfInBounds_toArray, List.set_cons_zero, List.set_cons_succ])
        refine take_to (i := 5) (d := 55) (v := ?_) rfl rfl (by kernel_rfl) (by kernel_rfl) (by kernel_rfl) (fun _ _ _ h => h) (Or.inl ⟨by kernel_rfl, ?_⟩) (by assumption) ?_
        case refine_2 =>
          intro w hSw
          (try dsimp only at hSw)
          go_simp
          (try with_reducible rfl)
        (try simp only [Act.put, List.setIfInBounds_toArray, List.set_cons_zero, List.set_cons_succ])
        refine take_to (i := 6) (d := 56) (v := ?_) rfl rfl (by kernel_rfl) (by kernel_rfl) (by kernel_rfl) (fun _ _ _ h => h) (Or.inl ⟨by kernel_rfl, ?_⟩) (by assumption) ?_
        case refine_2 =>
          intro w hSw
          (try dsimp only at hSw)
          go_simp
          (try with_reducible rfl)
        (try simp only [Act.put, List.setIfInBounds_toArray, List.set_cons_zero, List.set_cons_succ])
        refine take_to (i := 7) (d := 57) (v := ?_) rfl rfl (by kernel_rfl) (by kernel_rfl) (by kernel_rfl) (fun _ _ _ h => h) (Or.inl ⟨by kernel_rfl, ?_⟩) (by assumption) ?_
        case refine_2 =>
          intro w hSw
          (try dsimp only at hSw)
          go_simp
          (try with_reducible rfl)
        (try simp only [Act.put, List.setIfInBounds_toArray, List.set_cons_zero, List.set_cons_succ])
        refine wpAnyH_ready (rs := [8]) (by kernel_rfl) (by simp) ?_
        refine AllReadyH.cons rfl (fun K hK => ?_) AllReadyH.nil
        go_simp
        (go_at_call_of 15 (Value.agg #[.int .i64 k', .int .u64 b', .string t', .slice a1' l1' c1', .slice a2' l2' c2', .slice a3' l3' c3', .slice a4' l4' c4']); refine (FB.out _).mono ?_; rintro _ w2 ⟨rfl, hb⟩; have BA := BA.below hb; have BB := BB.below hb; have BD := BD.below hb; have HB := bt HB hb; have hL := hL.below hb; have TA := treeB TA hb; have TB := treeB TB hb; clear hb)
        refine hK.out _ _ ?_ (fun hHeld => ?_)
        · (try dsimp only)
          with_reducible exact ⟨BA.cells, BB.cells, BD.cells⟩
        clear hK K
        (try simp only [Act.put, List.setIfInBounds_toArray, List.set_cons_zero, List.set_cons_succ])
        refine take_to (i := 9) (d := 59) (v := .bool false) rfl rfl (by kernel_rfl) (by kernel_rfl) (by kernel_rfl) (fun _ _ _ h => h) (Or.inl ⟨by kernel_rfl, fun w hSw => by (try dsimp only at hSw); go_simp⟩) (by assumption) ?_
        (try simp only [Act.put, List.setIfInBounds_toArray, List.set_cons_zero, List.set_cons_succ])
        refine take_to (i := 10) (d := 60) (v := .bool false) rfl rfl (by kernel_rfl) (by kernel_rfl) (by kernel_rfl) (fun _ _ _ h => h) (Or.inl ⟨by kernel_rfl, fun w hSw => by (try dsimp only at hSw); go_simp⟩) (by assumption) ?_
        (try simp only [Act.put, List.setIfInBounds_toArray, List.set_cons_zero, List.set_cons_succ])
        refine take_to (i := 11) (d := 61) (v := undef) rfl rfl (by kernel_rfl) (by kernel_rfl) (by kernel_rfl) (fun _ _ _ h => h) (Or.inr ⟨by kernel_rfl, rfl⟩) (by assumption) ?_
        (try simp only [Act.put, List.setIfInBounds_toArray, List.set_cons_zero, List.set_cons_succ])
        refine take_to (i := 12) (d := 62) (v := undef) rfl rfl (by kernel_rfl) (by kernel_rfl) (by kernel_rfl) (fun _ _ _ h => h) (Or.inr ⟨by kernel_rfl, rfl⟩) (by assumption) ?_
        (try simp only [Act.put, List.setIfInBounds_toArray, List.set_cons_zero, List.set_cons_succ])
        refine take_to (i := 13) (d := 63) (v := undef) rfl rfl (by kernel_rfl) (by kernel_rfl) (by kernel_rfl) (fun _ _ _ h => h) (Or.inr ⟨by kernel_rfl, rfl⟩) (by assumption) ?_
        (try simp only [Act.put, List.setIfInBounds_toArray, List.set_cons_zero, List.set_cons_succ])
        refine take_to (i := 14) (d := 64) (v := undef) rfl rfl (by kernel_rfl) (by kernel_rfl) (by kernel_rfl) (fun _ _ _ h => h) (Or.inr ⟨by kernel_rfl, rfl⟩) (by assumption) ?_
        (try simp only [Act.put, List.setIfInBounds_toArray, List.set_cons_zero, List.set_cons_succ])
        refine take_to (i := 15) (d := 65) (v := undef) rfl rfl (by kernel_rfl) (by kernel_rfl) (by kernel_rfl) (fun _ _ _ h => h) (Or.inr ⟨by kernel_rfl, rfl⟩) (by assumption) ?_
        (try simp only [Act.put, List.setIfInBounds_toArray, List.set_cons_zero, List.set_cons_succ])
        refine take_to (i := 16) (d := 66) (v := undef) rfl rfl (by kernel_rfl) (by kernel_rfl) (by kernel_rfl) (fun _ _ _ h => h) (Or.inr ⟨by kernel_rfl, rfl⟩) (by assumption) ?_
        (try simp only [Act.put, List.setIfInBounds_toArray, List.set_cons_zero, List.set_cons_succ])
        refine take_to (i := 17) (d := 67) (v := undef) rfl rfl (by kernel_rfl) (by kernel_rfl) (by kernel_rfl) (fun _ _ _ h => h) (Or.inr ⟨by kernel_rfl, rfl⟩) (by assumption) ?_
        (try simp only [Act.put, List.setIfInBounds_toArray, List.set_cons_zero, List.set_cons_succ])
        refine take_to (i := 18) (d := 68) (v := undef) rfl rfl (by kernel_rfl) (by kernel_rfl) (by kernel_rfl) (fun _ _ _ h => h) (Or.inr ⟨by kernel_rfl, rfl⟩) (by assumption) ?_
        (try simp only [Act.put, List.setIfInBounds_toArray, List.set_cons_zero, List.set_cons_succ])
        refine take_to (i := 19) (d := 69) (v := .bool false) rfl rfl (by kernel_rfl) (by kernel_rfl) (by kernel_rfl) (fun _ _ _ h => h) (Or.inl ⟨by kernel_rfl, fun w hSw => by (try dsimp only at hSw); go_simp⟩) (by assumption) ?_
        (try simp only [Act.put, List.setIfInBounds_toArray, List.set_cons_zero, List.set_cons_succ])
        refine wpAnyH_done (by kernel_rfl) ?_ _
        all_goals
          go_wp2_with (go_at_call 9; refine (awake_any _ hL).mono ?_; rintro _ w2 ⟨rfl, hb⟩)
          go_ret
          exact ⟨rfl, bt HB hb⟩
      | true =>
        go_region_held3 (fun w' => (w'.cell? ⟨w.heap.size, 0, none⟩ = some (.int .i64 k) ∧ w'.cell? ⟨w.heap.size, 1, none⟩ = some (.int .u64 b) ∧ w'.cell? ⟨w.heap.size, 2, none⟩ = some (.string t) ∧ w'.cell? ⟨w.heap.size, 3, none⟩ = some (.slice a1 l1 c1) ∧ w'.cell? ⟨w.heap.size, 4, none⟩ = some (.slice a2 l2 c2) ∧ w'.cell? ⟨w.heap.size, 5, none⟩ = some (.slice a3 l3 c3) ∧ w'.cell? ⟨w.heap.size, 6, none⟩ = some (.slice a4 l4 c4)) ∧ (w'.cell? ⟨w.heap.size + 1, 0, none⟩ = some (.int .i64 k') ∧ w'.cell? ⟨w.heap.size + 1, 1, none⟩ = some (.int .u64 b') ∧ w'.cell? ⟨w.heap.size + 1, 2, none⟩ = some (.string t') ∧ w'.cell? ⟨w.heap.size + 1, 3, none⟩ = some (.slice a1' l1' c1') ∧ w'.cell? ⟨w.heap.size + 1, 4, none⟩ = some (.slice a2' l2' c2') ∧ w'.cell? ⟨w.heap.size + 1, 5, none⟩ = some (.slice a3' l3' c3') ∧ w'.cell? ⟨w.heap.size + 1, 6, none⟩ = some (.slice a4' l4' c4')) ∧ (w'.cell? ⟨w.heap.size + 2, 0, none⟩ = some (.int .i64 k'') ∧ w'.cell? ⟨w.heap.size + 2, 1, none⟩ = some (.int .u64 b'') ∧ w'.cell? ⟨w.heap.size + 2, 2, none⟩ = some (.string t'') ∧ w'.cell? ⟨w.heap.size + 2, 3, none⟩ = some (.slice a1'' l1'' c1'') ∧ w'.cell? ⟨w.heap.size + 2, 4, none⟩ = some (.slice a2'' l2'' c2'') ∧ w'.cell? ⟨w.heap.size + 2, 5, none⟩ = some (.slice a3'' l3'' c3'') ∧ w'.cell? ⟨w.heap.size + 2, 6, none⟩ = some (.slice a4'' l4'' c4''))) (with_reducible exact ⟨BA.cells, BB.cells, BD.cells⟩)
          (first
            | (go_at_call_of 15 (Value.agg #[.int .i64 k, .int .u64 b, .string t, .slice a1 l1 c1, .slice a2 l2 c2, .slice a3 l3 c3, .slice a4 l4 c4]); refine (FA.out _).mono ?_; rintro _ w2 ⟨rfl, hb⟩; have BA := BA.below hb; have BB := BB.below hb; have BD := BD.below hb; have HB := bt HB hb; have hL := hL.below hb; have TA := treeB TA hb; have TB := treeB TB hb; clear hb)
            | (go_at_call_of 15 (Value.agg #[.int .i64 k', .int .u64 b', .string t', .slice a1' l1' c1', .slice a2' l2' c2', .slice a3' l3' c3', .slice a4' l4' c4']); refine (FB.out _).mono ?_; rintro _ w2 ⟨rfl, hb⟩; have BA := BA.below hb; have BB := BB.below hb; have BD := BD.below hb; have HB := bt HB hb; have hL := hL.below hb; have TA := treeB TA hb; have TB := treeB TB hb; clear hb)
            | (go_at_call_of 13 (Value.agg #[.int .i64 k, .int .u64 b, .string t, .slice a1 l1 c1, .slice a2 l2 c2, .slice a3 l3 c3, .slice a4 l4 c4]); refine (norm_p n ⟨k, b, t, a1, l1, c1, a2, l2, c2, a3, l3, c3, a4, l4, c4⟩ _ TA).mono ?_; rintro _ w2 ⟨x, rfl, hx, tx, hb⟩; have BA := BA.below hb; have BB := BB.below hb; have BD := BD.below hb; have HB := bt HB hb; have hL := hL.below hb; have TA := treeB TA hb; have TB := treeB TB hb; clear hb; have HX := Lib.hid hx; clear hx tx; obtain ⟨xk, xb, xt, xa1, xl1, xc1, xa2, xl2, xc2, xa3, xl3, xc3, xa4, xl4, xc4⟩ := x; simp only [vv])
            | (go_at_call_of 13 (Value.agg #[.int .i64 k', .int .u64 b', .string t', .slice a1' l1' c1', .slice a2' l2' c2', .slice a3' l3' c3', .slice a4' l4' c4']); refine (norm_p n' ⟨k', b', t', a1', l1', c1', a2', l2', c2', a3', l3', c3', a4', l4', c4'⟩ _ TB).mono ?_; rintro _ w2 ⟨y, rfl, hy, ty, hb⟩; have BA := BA.below hb; have BB := BB.below hb; have BD := BD.below hb; have HB := bt HB hb; have hL := hL.below hb; have TA := treeB TA hb; have TB := treeB TB hb; clear hb; have HY := Lib.hid hy; clear hy ty; obtain ⟨yk, yb, yt, ya1, yl1, yc1, ya2, yl2, yc2, ya3, yl3, yc3, ya4, yl4, yc4⟩ := y; simp only [vv])
            | (go_at_call 12; refine (same_any ⟨xk, xb, xt, xa1, xl1, xc1, xa2, xl2, xc2, xa3, xl3, xc3, xa4, xl4, xc4⟩ ⟨yk, yb, yt, ya1, yl1, yc1, ya2, yl2, yc2, ya3, yl3, yc3, ya4, yl4, yc4⟩ _).mono ?_; rintro _ w2 ⟨rfl, hb⟩; rw [show sameB (sc ⟨xk, xb, xt, xa1, xl1, xc1, xa2, xl2, xc2, xa3, xl3, xc3, xa4, xl4, xc4⟩) (sc ⟨yk, yb, yt, ya1, yl1, yc1, ya2, yl2, yc2, ya3, yl3, yc3, ya4, yl4, yc4⟩) = false from (by rw [HX.out, HY.out]; exact (SM.out (by trivial) (by trivial)).trans (by decide))]; have BA := BA.below hb; have BB := BB.below hb; have BD := BD.below hb; have HB := bt HB hb; have hL := hL.below hb; have TA := treeB TA hb; have TB := treeB TB hb; clear hb))
        all_goals
          go_wp2_with (go_at_call 9; refine (awake_any _ hL).mono ?_; rintro _ w2 ⟨rfl, hb⟩)
          go_ret
          exact ⟨rfl, bt HB hb⟩
end Go.Proofs.YtgjbpadhdnclnaaGreatDoor.ScalarOrderedW
