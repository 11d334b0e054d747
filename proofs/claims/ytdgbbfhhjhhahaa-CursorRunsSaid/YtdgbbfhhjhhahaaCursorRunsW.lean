/- The walk of the law CursorRuns. -/
import Derived.Test.YtdgbbfhhjhhahaaCurP
import Derived.Test.YtdgbbfhhjhhahaaCurL
import Derived.Test.YtdgbbfhhjhhahaaStk
import Derived.Deep.RegionHeld3
import Derived.Deep.LoopGhost
import Derived.Deep.DeepCutAuto
namespace Go.Proofs.Ytdgbbfhhjhhahaa.CursorRunsW
open Go.RowKit CurM Has Nums CurA CurC CurL CurS CurN CurP CurW OwnK Stk

def allWf (st : List Cur) : Prop := ∀ c ∈ st, Wf c
theorem allWf.head {c : Cur} {st : List Cur} (h : allWf (c :: st)) : Wf c := h c (by simp)
theorem allWf.tail {c : Cur} {st : List Cur} (h : allWf (c :: st)) : allWf st := fun x hx => h x (by simp [hx])
theorem allWf.cons {c : Cur} {st : List Cur} (hc : Wf c) (h : allWf st) : allWf (c :: st) := fun x hx => by
  rcases List.mem_cons.1 hx with rfl | hx
  · exact hc
  · exact h x hx

/-- What holds at the head of the loop. -/
def Head (w : World) (L : Nat) (k : Nat) (c : Cur) (st : List Cur) (v5 : Value) (wr : World) : Prop :=
  k ≤ L ∧ k ≤ 60 ∧ st.length ≤ k ∧ Wf c ∧ allWf st ∧ HasC wr w.heap.size c.d c.a c.e c.dp c.n c.t ∧ OwnK wr (w.heap.size + 1) v5 st ∧ Below w.heap.size w wr

set_option maxRecDepth 100000 in
set_option maxHeartbeats 2000000 in
theorem walk (c : Cur) (A : Option Addr) (L cap : Nat) (K N : Nat → Int) (hc : Wf c) (hL : L ≤ 9223372036854775807) (w : World) (ho : Ops w A L K N) :
    Calls Try.prog 3 #[cv c, .slice A L cap] w fun e w' => e = .returned (.bool true) ∧ Below w.heap.size w w' := by
  have hL1 : (L : Int) ≤ 9223372036854775807 := by omega
  have Hc := Lib.hid hc
  have Ho := Lib.hid ho
  clear hc ho
  obtain ⟨d, a, e, dp, n, t⟩ := c
  go_enter Try.func3, Try.ntmps3
  go_wp2_with fail
  have hH : Head w L 0 ⟨d, a, e, dp, n, t⟩ [] (.slice none 0 0) (w.alloc (.cells #[.string d, .int .i64 a, .int .i64 e, .int .i64 dp, .int .i64 n, .int .i64 t] 23)) := ⟨by omega, by omega, by simp, Hc.out, fun _ h => by simp at h, has_new _ _ _ _ _ _ _ _, OwnK.nil _ _, below1 _⟩
  have HH := Lib.hid hH
  clear hH
  go_loopg [5, 6] 60 (fun g v5 v6 wr => ∃ (k : Nat) (c : Cur) (st : List Cur), g = 60 - k ∧ v6 = .int .i64 k ∧ Head w L k c st v5 wr)
  case atStart => exact ⟨0, _, _, rfl, rfl, HH.out⟩
  case round =>
    obtain ⟨k, c, st, hg, rfl, hk, hk60, hsl, hwf, hwfs, hC, hO, hbel⟩ := hrel
    have Hg := Lib.hid hg
    have Hwf := Lib.hid hwf
    have Hwfs := Lib.hid hwfs
    have HC := Lib.hid hC
    have HO := Lib.hid hO
    have hdsz := rest_le c
    have hdsz2 := hwf.d
    clear hg hwf hwfs
    by_cases hround : k < L ∧ k < 60
    · obtain ⟨hkL, hk6⟩ := hround
      have hkL' : (k : Int) < L := by omega
      have hk6' : (k : Int) < 60 := by omega
      obtain ⟨b, o, hA, hbl, hck, hcn⟩ := Ho.out.at_ k hkL
      have Hik := Lib.hid (Ho.out.k k hkL)
      have Hin := Lib.hid (Ho.out.n k hkL)
      have hck := (hbel.cell (p := ⟨b, o + k * 2, none⟩) hbl).trans hck
      have hcn := (hbel.cell (p := ⟨b, o + k * 2 + 1, none⟩) hbl).trans hcn
      have Hck := Lib.hid hck
      have Hcn := Lib.hid hcn
      subst hA
      obtain ⟨so, hso⟩ : ∃ so, sound c = so := ⟨_, rfl⟩
      have Hso := Lib.hid hso
      clear hck hcn hso
      obtain ⟨d1, a1, e1, dp1, n1, t1⟩ := c
      obtain ⟨lr, r0, r1, r2, r3, r4, r5, rf⟩ := hC
      have hA := HC.out.drew
      go_upto_region 5 with fail
      go_region_held3 (fun w' => (w'.cell? ⟨w.heap.size, 0, none⟩ = some (.string d1) ∧ w'.cell? ⟨w.heap.size, 1, none⟩ = some (.int .i64 a1) ∧ w'.cell? ⟨w.heap.size, 2, none⟩ = some (.int .i64 e1) ∧ w'.cell? ⟨w.heap.size, 3, none⟩ = some (.int .i64 dp1) ∧ w'.cell? ⟨w.heap.size, 4, none⟩ = some (.int .i64 n1) ∧ w'.cell? ⟨w.heap.size, 5, none⟩ = some (.int .i64 t1))) (exact hA.cells)
        (first
          | (go_at_call 9; refine (soundP ⟨d1, a1, e1, dp1, n1, t1⟩ _ Hwf.out so Hso.out).mono ?_; rintro _ v1 ⟨rfl, hv1⟩; have hA := hA.below hv1)
          | (go_at_call 10; refine (soundR ⟨d1, a1, e1, dp1, n1, t1⟩ _ Hwf.out so Hso.out).mono ?_; rintro _ v2 ⟨rfl, hv2⟩; have hA := hA.below hv2)
          | (go_at_call 11; refine (leftP ⟨d1, a1, e1, dp1, n1, t1⟩ _ Hwf.out).mono ?_; rintro _ v3 ⟨rfl, hv3⟩; have hA := hA.below hv3)
          | (go_at_call 12; refine (leftR ⟨d1, a1, e1, dp1, n1, t1⟩ _ Hwf.out).mono ?_; rintro _ v4 ⟨rfl, hv4⟩; have hA := hA.below hv4)
        )
      clear r0 r1 r2 r3 r4 r5 rf
      have hX : Below wr.drew.heap.size wr.drew v4 := bt (bt (bt hv1 hv2) hv3) hv4
      have hC1 := HC.out.drew.below hX
      have hO1 := HO.out.drew.below hX
      have hbel1 := hbel.drew.trans (hX.mono (Nat.le_of_lt lr))
      have hck := cellB hX (show wr.drew.cell? ⟨b, o + k * 2, none⟩ = _ from Hck.out)
      have hcn := cellB hX (show wr.drew.cell? ⟨b, o + k * 2 + 1, none⟩ = _ from Hcn.out)
      have HC1 := Lib.hid hC1
      have HO1 := Lib.hid hO1
      clear hO1
      obtain ⟨lr1, r0, r1, r2, r3, r4, r5, rf⟩ := hC1
      try simp only at r0 r1 r2 r3 r4 r5
      by_cases h5 : K k = 5
      · 
        rw [h5] at hck
        clear h5
        obtain ⟨c2, x2, hpe⟩ : ∃ c2 x2, pEnter ⟨d1, a1, e1, dp1, n1, t1⟩ (N k) = (c2, x2) := ⟨_, _, rfl⟩
        have Hpe := Lib.hid hpe
        have hwe : Wf c2 := by
          have := wf_enter (n := N k) Hwf.out
          rw [hpe] at this
          exact this
        have hcase : (0 < x2 ∧ c2 = ⟨d1, a1, e1, dp1, n1, t1⟩) ∨ x2 = 0 := by
          rcases enter_cases ⟨d1, a1, e1, dp1, n1, t1⟩ (N k) with ⟨y, hy, he⟩ | ⟨_, _, _, he⟩
          · rw [hpe] at he
            injection he with he1 he2
            exact .inl ⟨by omega, he1⟩
          · rw [hpe] at he
            injection he with he1 he2
            exact .inr he2
        have Hwe := Lib.hid hwe
        have Hcase := Lib.hid hcase
        clear hpe hwe hcase
        obtain ⟨d2, a2, e2, dp2, n2, t2⟩ := c2
        go_upto_region 8 with fail
        go_cut [7, 8] (fun v7 v8 wx => v8 = .int .i64 x2 ∧ Below v4.heap.size v4 wx ∧ Made w.heap.size w ⟨d1, a1, e1, dp1, n1, t1⟩ ⟨d2, a2, e2, dp2, n2, t2⟩ st u5 v7 wx)
        case first =>
          have hne1 : v4.heap.size ≠ w.heap.size := by omega
          have hne2 : v4.heap.size ≠ b := by omega
          go_region_held3 (fun w' => (w'.cell? ⟨w.heap.size, 0, none⟩ = some (.string d1) ∧ w'.cell? ⟨w.heap.size, 1, none⟩ = some (.int .i64 a1) ∧ w'.cell? ⟨w.heap.size, 2, none⟩ = some (.int .i64 e1) ∧ w'.cell? ⟨w.heap.size, 3, none⟩ = some (.int .i64 dp1) ∧ w'.cell? ⟨w.heap.size, 4, none⟩ = some (.int .i64 n1) ∧ w'.cell? ⟨w.heap.size, 5, none⟩ = some (.int .i64 t1)) ∧ w'.cell? ⟨b, o + k * 2 + 1, none⟩ = some (.int .i64 (N k))) (go_keep)
            (first
              | (go_at_call 13; refine (enterP ⟨d1, a1, e1, dp1, n1, t1⟩ (N k) _ Hwf.out Hin.out).mono ?_; rintro _ w2 ⟨c3, x3, rfl, k3, hb2⟩; obtain ⟨rfl, rfl⟩ := inj2 k3.out Hpe.out; have q0 := cellB hb2 (p := ⟨w.heap.size, 0, none⟩) (v := .string d1) (by go_keep); have q1 := cellB hb2 (p := ⟨w.heap.size, 1, none⟩) (v := .int .i64 a1) (by go_keep); have q2 := cellB hb2 (p := ⟨w.heap.size, 2, none⟩) (v := .int .i64 e1) (by go_keep); have q3 := cellB hb2 (p := ⟨w.heap.size, 3, none⟩) (v := .int .i64 dp1) (by go_keep); have q4 := cellB hb2 (p := ⟨w.heap.size, 4, none⟩) (v := .int .i64 n1) (by go_keep); have q5 := cellB hb2 (p := ⟨w.heap.size, 5, none⟩) (v := .int .i64 t1) (by go_keep); have q6 := cellB hb2 (p := ⟨b, o + k * 2 + 1, none⟩) (v := .int .i64 (N k)) (by go_keep); (first | (have hZ : HasC w2 v4.heap.size ⟨#[]⟩ 0 0 0 0 0 := (has_new v4.drew ⟨#[]⟩ 0 0 0 0 0 23).below hb2; obtain ⟨z, z0, z1, z2, z3, z4, z5, zf⟩ := hZ) | skip)))
          all_goals
            go_wp2_with fail
            go_meet
            first
              | (have hz0 := z0; exact ⟨rfl, madeB2 (c := ⟨d1, a1, e1, dp1, n1, t1⟩) (c2 := ⟨d2, a2, e2, dp2, n2, t2⟩) HC1.out HO1.out hbel1 hb2⟩)
              | exact ⟨rfl, madeA2 (c := ⟨d1, a1, e1, dp1, n1, t1⟩) (c2 := ⟨d2, a2, e2, dp2, n2, t2⟩) HC1.out HO1.out hbel1 hb2 _⟩
        case rest =>
          obtain ⟨rfl, hbw, q, rfl, hqne, hqown, hQ, hC2, hO2, hbel2⟩ := hcut
          have HQ := Lib.hid hQ
          have Hqown := Lib.hid hqown
          have HC2 := Lib.hid hC2
          have HO2 := Lib.hid hO2
          have hcn2 := cellB hbw hcn
          clear r0 r1 r2 r3 r4 r5 rf hqown hQ hcn
          obtain ⟨lr, r0, r1, r2, r3, r4, r5, rf⟩ := hC2
          try simp only at r0 r1 r2 r3 r4 r5
          go_upto_region 9 with fail
          go_cut [9, 10] (fun v9 v10 wx => v10 = .int .i64 x2 ∧ Below wc.heap.size wc wx ∧ Made w.heap.size w ⟨d1, a1, e1, dp1, n1, t1⟩ ⟨d2, a2, e2, dp2, n2, t2⟩ st u5 v9 wx)
          case first =>
            have hne1 : wc.heap.size ≠ w.heap.size := by omega
            have hne2 : wc.heap.size ≠ b := by omega
            go_region_held3 (fun w' => (w'.cell? ⟨w.heap.size, 0, none⟩ = some (.string d1) ∧ w'.cell? ⟨w.heap.size, 1, none⟩ = some (.int .i64 a1) ∧ w'.cell? ⟨w.heap.size, 2, none⟩ = some (.int .i64 e1) ∧ w'.cell? ⟨w.heap.size, 3, none⟩ = some (.int .i64 dp1) ∧ w'.cell? ⟨w.heap.size, 4, none⟩ = some (.int .i64 n1) ∧ w'.cell? ⟨w.heap.size, 5, none⟩ = some (.int .i64 t1)) ∧ w'.cell? ⟨b, o + k * 2 + 1, none⟩ = some (.int .i64 (N k))) (go_keep)
              (first
                | (go_at_call 14; refine (enterR ⟨d1, a1, e1, dp1, n1, t1⟩ (N k) _ Hwf.out Hin.out).mono ?_; rintro _ w2 ⟨c3, x3, rfl, k3, hb2⟩; obtain ⟨rfl, rfl⟩ := inj2 k3.out Hpe.out; have q0 := cellB hb2 (p := ⟨w.heap.size, 0, none⟩) (v := .string d1) (by go_keep); have q1 := cellB hb2 (p := ⟨w.heap.size, 1, none⟩) (v := .int .i64 a1) (by go_keep); have q2 := cellB hb2 (p := ⟨w.heap.size, 2, none⟩) (v := .int .i64 e1) (by go_keep); have q3 := cellB hb2 (p := ⟨w.heap.size, 3, none⟩) (v := .int .i64 dp1) (by go_keep); have q4 := cellB hb2 (p := ⟨w.heap.size, 4, none⟩) (v := .int .i64 n1) (by go_keep); have q5 := cellB hb2 (p := ⟨w.heap.size, 5, none⟩) (v := .int .i64 t1) (by go_keep); have q6 := cellB hb2 (p := ⟨b, o + k * 2 + 1, none⟩) (v := .int .i64 (N k)) (by go_keep); (first | (have hZ : HasC w2 wc.heap.size ⟨#[]⟩ 0 0 0 0 0 := (has_new wc.drew ⟨#[]⟩ 0 0 0 0 0 23).below hb2; obtain ⟨z, z0, z1, z2, z3, z4, z5, zf⟩ := hZ) | skip)))
            all_goals
              go_wp2_with fail
              go_meet
              first
                | (have hz0 := z0; exact ⟨rfl, madeB2 (c := ⟨d1, a1, e1, dp1, n1, t1⟩) (c2 := ⟨d2, a2, e2, dp2, n2, t2⟩) HC2.out HO2.out hbel2 hb2⟩)
                | exact ⟨rfl, madeA2 (c := ⟨d1, a1, e1, dp1, n1, t1⟩) (c2 := ⟨d2, a2, e2, dp2, n2, t2⟩) HC2.out HO2.out hbel2 hb2 _⟩
          case rest =>
            obtain ⟨rfl, hbw2, y, rfl, hyne, hyown, hY, hC3, hO3, hbel3⟩ := hcut
            have hQ := HQ.out.below hbw2
            have HQ3 := Lib.hid hQ
            have HC3 := Lib.hid hC3
            have HO3 := Lib.hid hO3
            clear r0 r1 r2 r3 r4 r5 rf hyown
            obtain ⟨lq, q0, q1, q2, q3, q4, q5, qf⟩ := hQ
            obtain ⟨ly, y0, y1, y2, y3, y4, y5, yf⟩ := hY
            obtain ⟨lr3, r0, r1, r2, r3, r4, r5, rf⟩ := hC3
            try simp only at q0 q1 q2 q3 q4 q5 r0 r1 r2 r3 r4 r5 y0 y1 y2 y3 y4 y5
            rcases Hcase.out with ⟨hx, he⟩ | hx
            · have He := Lib.hid he
              clear he
              go_wp2_with fail
              go_roundg (60 - (k + 1))
              case measure => have := Hg.out; omega
              case rel =>
                exact ⟨k + 1, ⟨d1, a1, e1, dp1, n1, t1⟩, st, rfl, by go_num, by omega, by omega, by omega, Hwf.out, Hwfs.out, HC3.out, HO3.out, hbel3⟩
            · subst hx
              go_wp2_with (at_builtin; refine wpList_push rfl (.tmp 73) (.tmp 75) rfl (w.heap.size + 1) _ st ⟨d1, a1, e1, dp1, n1, t1⟩ rfl (HO3.out.alloc _) wc.heap.size 1 rfl ?_ (has_new _ _ _ _ _ _ _ _) (by omega) (by simp; omega); intro v' w4 hown4 hb4 hg4; have hQ4 := (HQ3.out.alloc (.cells #[.string d1, .int .i64 a1, .int .i64 e1, .int .i64 dp1, .int .i64 n1, .int .i64 t1] 23)).grown Hqown.out hg4; have hC4 := (HC3.out.alloc (.cells #[.string d1, .int .i64 a1, .int .i64 e1, .int .i64 dp1, .int .i64 n1, .int .i64 t1] 23)).belowB (by omega) hb4; have hbel4 := (hbel3.alloc (Nat.le_of_lt lr3) (.cells #[.string d1, .int .i64 a1, .int .i64 e1, .int .i64 dp1, .int .i64 n1, .int .i64 t1] 23)).trans (hb4.mono (by omega)); have HC4 := Lib.hid hC4; obtain ⟨lq4, s0, s1, s2, s3, s4, s5, sf⟩ := hQ4; obtain ⟨lr4, t0', t1', t2', t3', t4', t5', tf'⟩ := hC4)
              go_roundg (60 - (k + 1))
              case measure => have := Hg.out; omega
              case rel =>
                exact ⟨k + 1, ⟨d2, a2, e2, dp2, n2, t2⟩, ⟨d1, a1, e1, dp1, n1, t1⟩ :: st, rfl, by go_num, by omega, by omega, by simp only [List.length_cons]; omega, Hwe.out, Hwfs.out.cons Hwf.out, HC4.out.set6 d2 a2 e2 dp2 n2 t2, hown4.set6 (by omega) _ _ _ _ _ _, below6 hbel4 (Nat.le_refl _) _ _ _ _ _ _⟩
      · by_cases h6 : K k = 6
        · cases st with
          | cons o1 st =>
            rw [h6] at hck
            clear h6
            have htop := HO1.out.top
            obtain ⟨d3, a3, e3, dp3, n3, t3⟩ := o1
            obtain ⟨g, cap2, rfl, hgb, hcap2, hT, hOp⟩ := htop
            have HT := Lib.hid hT
            simp only [List.length_cons] at hsl
            clear hOp
            obtain ⟨lt, f0, f1, f2, f3, f4, f5⟩ := hT
            simp only at f0 f1 f2 f3 f4 f5
            have hm60 : st.length ≤ 60 := by omega
            have hw1 : IntKind.i64.wrap ((st.length : Int) + 1 - 1) = st.length := by rw [IntWalk.i64_in _ (by omega)]; omega
            have hw2 : IntKind.i64.wrap (st.length : Int) = st.length := by rw [IntWalk.i64_in _ (by omega)]
            have hi0 : (0 : Int) ≤ st.length := by omega
            have hi1 : (st.length : Int) < (st.length : Int) + 1 := by omega
            have hcapI : (st.length : Int) ≤ cap2 := by omega
            obtain ⟨c2, hlv⟩ : ∃ c2, pLeave ⟨d3, a3, e3, dp3, n3, t3⟩ ⟨d1, a1, e1, dp1, n1, t1⟩ = c2 := ⟨_, rfl⟩
            have Hwo := Lib.hid Hwfs.out.head
            have hwl : Wf c2 := by rw [← hlv]; exact wf_leave Hwfs.out.head Hwf.out
            have Hwl := Lib.hid hwl
            have Hlv := Lib.hid hlv
            clear hlv hwl
            obtain ⟨d2, a2, e2, dp2, n2, t2⟩ := c2
            go_upto_region 18 with fail
            go_cut [12] (fun v12 wx => Below v4.heap.size v4 wx ∧ Made w.heap.size w ⟨d1, a1, e1, dp1, n1, t1⟩ ⟨d2, a2, e2, dp2, n2, t2⟩ (⟨d3, a3, e3, dp3, n3, t3⟩ :: st) (.slice (some ⟨g, 0, none⟩) (st.length + 1) cap2) v12 wx)
            case first =>
              have hne1 : v4.heap.size ≠ w.heap.size := by omega
              have hne2 : v4.heap.size ≠ b := by omega
              have hne3 : v4.heap.size ≠ g := by omega
              go_region_held3 (fun w' => (w'.cell? ⟨w.heap.size, 0, none⟩ = some (.string d1) ∧ w'.cell? ⟨w.heap.size, 1, none⟩ = some (.int .i64 a1) ∧ w'.cell? ⟨w.heap.size, 2, none⟩ = some (.int .i64 e1) ∧ w'.cell? ⟨w.heap.size, 3, none⟩ = some (.int .i64 dp1) ∧ w'.cell? ⟨w.heap.size, 4, none⟩ = some (.int .i64 n1) ∧ w'.cell? ⟨w.heap.size, 5, none⟩ = some (.int .i64 t1)) ∧ (w'.cell? ⟨g, st.length * 6, none⟩ = some (.string d3) ∧ w'.cell? ⟨g, st.length * 6 + 1, none⟩ = some (.int .i64 a3) ∧ w'.cell? ⟨g, st.length * 6 + 2, none⟩ = some (.int .i64 e3) ∧ w'.cell? ⟨g, st.length * 6 + 3, none⟩ = some (.int .i64 dp3) ∧ w'.cell? ⟨g, st.length * 6 + 4, none⟩ = some (.int .i64 n3) ∧ w'.cell? ⟨g, st.length * 6 + 5, none⟩ = some (.int .i64 t3))) (go_keep)
                (first
                  | (go_at_call 15; refine (leaveP ⟨d3, a3, e3, dp3, n3, t3⟩ ⟨d1, a1, e1, dp1, n1, t1⟩ _ Hwo.out Hwf.out).mono ?_; rintro _ w2 ⟨c3, rfl, k3, hb2⟩; obtain rfl := k3.out.symm.trans Hlv.out; have q0 := cellB hb2 (p := ⟨w.heap.size, 0, none⟩) (v := .string d1) (by go_keep); have q1 := cellB hb2 (p := ⟨w.heap.size, 1, none⟩) (v := .int .i64 a1) (by go_keep); have q2 := cellB hb2 (p := ⟨w.heap.size, 2, none⟩) (v := .int .i64 e1) (by go_keep); have q3 := cellB hb2 (p := ⟨w.heap.size, 3, none⟩) (v := .int .i64 dp1) (by go_keep); have q4 := cellB hb2 (p := ⟨w.heap.size, 4, none⟩) (v := .int .i64 n1) (by go_keep); have q5 := cellB hb2 (p := ⟨w.heap.size, 5, none⟩) (v := .int .i64 t1) (by go_keep); have q6 := cellB hb2 (p := ⟨g, st.length * 6, none⟩) (v := .string d3) (by go_keep); have q7 := cellB hb2 (p := ⟨g, st.length * 6 + 1, none⟩) (v := .int .i64 a3) (by go_keep); have q8 := cellB hb2 (p := ⟨g, st.length * 6 + 2, none⟩) (v := .int .i64 e3) (by go_keep); have q9 := cellB hb2 (p := ⟨g, st.length * 6 + 3, none⟩) (v := .int .i64 dp3) (by go_keep); have q10 := cellB hb2 (p := ⟨g, st.length * 6 + 4, none⟩) (v := .int .i64 n3) (by go_keep); have q11 := cellB hb2 (p := ⟨g, st.length * 6 + 5, none⟩) (v := .int .i64 t3) (by go_keep); (first | (have hZ : HasC w2 v4.heap.size ⟨#[]⟩ 0 0 0 0 0 := (has_new v4.drew ⟨#[]⟩ 0 0 0 0 0 23).below hb2; obtain ⟨z, z0, z1, z2, z3, z4, z5, zf⟩ := hZ) | skip)))
              all_goals
                go_wp2_with fail
                go_meet
                first
                  | (have hz0 := z0; exact madeB2 (c := ⟨d1, a1, e1, dp1, n1, t1⟩) (c2 := ⟨d2, a2, e2, dp2, n2, t2⟩) HC1.out HO1.out hbel1 hb2)
                  | exact madeA2 (c := ⟨d1, a1, e1, dp1, n1, t1⟩) (c2 := ⟨d2, a2, e2, dp2, n2, t2⟩) HC1.out HO1.out hbel1 hb2 _
            case rest =>
              obtain ⟨hbw, q, rfl, hqne, hqown, hQ, hC2, hO2, hbel2⟩ := hcut
              have HQ := Lib.hid hQ
              have HC2 := Lib.hid hC2
              have HO2 := Lib.hid hO2
              clear r0 r1 r2 r3 r4 r5 rf f0 f1 f2 f3 f4 f5 hqown
              have hT2 := hO2.topAt.1
              have HT2 := Lib.hid hT2
              obtain ⟨lq, q0, q1, q2, q3, q4, q5, qf⟩ := hQ
              obtain ⟨lr, r0, r1, r2, r3, r4, r5, rf⟩ := hC2
              obtain ⟨lt2, f0, f1, f2, f3, f4, f5⟩ := hT2
              try simp only at q0 q1 q2 q3 q4 q5 r0 r1 r2 r3 r4 r5 f0 f1 f2 f3 f4 f5
              go_upto_region 19 with fail
              go_region_held3 (fun w' => (w'.cell? ⟨q, 0, none⟩ = some (.string d2) ∧ w'.cell? ⟨q, 1, none⟩ = some (.int .i64 a2) ∧ w'.cell? ⟨q, 2, none⟩ = some (.int .i64 e2) ∧ w'.cell? ⟨q, 3, none⟩ = some (.int .i64 dp2) ∧ w'.cell? ⟨q, 4, none⟩ = some (.int .i64 n2) ∧ w'.cell? ⟨q, 5, none⟩ = some (.int .i64 t2)) ∧ (w'.cell? ⟨w.heap.size, 0, none⟩ = some (.string d1) ∧ w'.cell? ⟨w.heap.size, 1, none⟩ = some (.int .i64 a1) ∧ w'.cell? ⟨w.heap.size, 2, none⟩ = some (.int .i64 e1) ∧ w'.cell? ⟨w.heap.size, 3, none⟩ = some (.int .i64 dp1) ∧ w'.cell? ⟨w.heap.size, 4, none⟩ = some (.int .i64 n1) ∧ w'.cell? ⟨w.heap.size, 5, none⟩ = some (.int .i64 t1)) ∧ (w'.cell? ⟨g, st.length * 6, none⟩ = some (.string d3) ∧ w'.cell? ⟨g, st.length * 6 + 1, none⟩ = some (.int .i64 a3) ∧ w'.cell? ⟨g, st.length * 6 + 2, none⟩ = some (.int .i64 e3) ∧ w'.cell? ⟨g, st.length * 6 + 3, none⟩ = some (.int .i64 dp3) ∧ w'.cell? ⟨g, st.length * 6 + 4, none⟩ = some (.int .i64 n3) ∧ w'.cell? ⟨g, st.length * 6 + 5, none⟩ = some (.int .i64 t3))) (go_keep)
                (first
                  | (go_at_call 16; refine (leaveR ⟨d3, a3, e3, dp3, n3, t3⟩ ⟨d1, a1, e1, dp1, n1, t1⟩ _ Hwo.out Hwf.out).mono ?_; rintro _ w3 ⟨c3, rfl, k3, hb3⟩; obtain rfl := k3.out.symm.trans Hlv.out; have hQ3 := HQ.out.drew.below hb3; have hC3 := HC2.out.drew.below hb3; have hT3 := (HT2.out.below (Below.refl _ _).drew).below hb3; have hO3 := HO2.out.drew.below hb3; have hbel3 := hbel2.drew.trans (hb3.mono (Nat.le_of_lt lr)); have HC3 := Lib.hid hC3; have HO3 := Lib.hid hO3; obtain ⟨lq3, q0, q1, q2, q3, q4, q5, qf⟩ := hQ3; obtain ⟨lr3, r0, r1, r2, r3, r4, r5, rf⟩ := hC3; obtain ⟨lt3, f0, f1, f2, f3, f4, f5⟩ := hT3))
              all_goals
                go_wp2_with fail
                go_roundg (60 - (k + 1))
                case measure => have := Hg.out; omega
                case rel =>
                  exact ⟨k + 1, ⟨d2, a2, e2, dp2, n2, t2⟩, st, rfl, by go_num, by omega, by omega, by omega, Hwl.out, Hwfs.out.tail, HC3.out.set6 d2 a2 e2 dp2 n2 t2, HO3.out.topAt.2.set6 (by omega) _ _ _ _ _ _, below6 hbel3 (Nat.le_refl _) _ _ _ _ _ _⟩
          | nil =>
            obtain ⟨a5, cap5, rfl⟩ := HO1.out.len
            rw [h6] at hck
            clear h6
            go_wp2_with fail
            go_roundg (60 - (k + 1))
            case measure => have := Hg.out; omega
            case rel =>
              exact ⟨k + 1, ⟨d1, a1, e1, dp1, n1, t1⟩, [], rfl, by go_num, by omega, by omega, by simp, Hwf.out, Hwfs.out, HC1.out, HO1.out, hbel1⟩
        · have h56 : (K k < 5 ∨ 6 < K k) := by omega
          clear h5 h6
          rcases h56 with h56 | h56
          · 
            obtain ⟨c2, hpe⟩ : ∃ c2, pStep ⟨d1, a1, e1, dp1, n1, t1⟩ (K k) (N k) = c2 := ⟨_, rfl⟩
            have hwi : Wf c2 := by rw [← hpe]; exact wf_step Hwf.out Hin.out
            have Hpe := Lib.hid hpe
            have Hwi := Lib.hid hwi
            clear hpe hwi
            obtain ⟨d2, a2, e2, dp2, n2, t2⟩ := c2
            go_upto_region 23 with fail
            go_cut [13, 14] (fun v13 v14 wx => v14 = .bool true ∧ Below v4.heap.size v4 wx ∧ Made w.heap.size w ⟨d1, a1, e1, dp1, n1, t1⟩ ⟨d2, a2, e2, dp2, n2, t2⟩ st u5 v13 wx)
            case first =>
              have hne1 : v4.heap.size ≠ w.heap.size := by omega
              have hne2 : v4.heap.size ≠ b := by omega
              go_region_held3 (fun w' => (w'.cell? ⟨w.heap.size, 0, none⟩ = some (.string d1) ∧ w'.cell? ⟨w.heap.size, 1, none⟩ = some (.int .i64 a1) ∧ w'.cell? ⟨w.heap.size, 2, none⟩ = some (.int .i64 e1) ∧ w'.cell? ⟨w.heap.size, 3, none⟩ = some (.int .i64 dp1) ∧ w'.cell? ⟨w.heap.size, 4, none⟩ = some (.int .i64 n1) ∧ w'.cell? ⟨w.heap.size, 5, none⟩ = some (.int .i64 t1)) ∧ w'.cell? ⟨b, o + k * 2, none⟩ = some (.int .i64 (K k)) ∧ w'.cell? ⟨b, o + k * 2 + 1, none⟩ = some (.int .i64 (N k))) (go_keep)
                (first
                  | (go_at_call 17; refine (step_any ⟨d1, a1, e1, dp1, n1, t1⟩ (K k) (N k) _ Hwf.out Hik.out Hin.out).mono ?_; rintro _ w2 ⟨c3, rfl, k3, hb2⟩; obtain rfl := k3.out.symm.trans Hpe.out; have q0 := cellB hb2 (p := ⟨w.heap.size, 0, none⟩) (v := .string d1) (by go_keep); have q1 := cellB hb2 (p := ⟨w.heap.size, 1, none⟩) (v := .int .i64 a1) (by go_keep); have q2 := cellB hb2 (p := ⟨w.heap.size, 2, none⟩) (v := .int .i64 e1) (by go_keep); have q3 := cellB hb2 (p := ⟨w.heap.size, 3, none⟩) (v := .int .i64 dp1) (by go_keep); have q4 := cellB hb2 (p := ⟨w.heap.size, 4, none⟩) (v := .int .i64 n1) (by go_keep); have q5 := cellB hb2 (p := ⟨w.heap.size, 5, none⟩) (v := .int .i64 t1) (by go_keep); have q6 := cellB hb2 (p := ⟨b, o + k * 2, none⟩) (v := .int .i64 (K k)) (by go_keep); have q7 := cellB hb2 (p := ⟨b, o + k * 2 + 1, none⟩) (v := .int .i64 (N k)) (by go_keep); (first | (have hZ : HasC w2 v4.heap.size ⟨#[]⟩ 0 0 0 0 0 := (has_new v4.drew ⟨#[]⟩ 0 0 0 0 0 23).below hb2; obtain ⟨z, z0, z1, z2, z3, z4, z5, zf⟩ := hZ) | skip)))
              all_goals
                go_wp2_with fail
                go_meet
                first
                  | (have hz0 := z0; exact ⟨rfl, madeB2 (c := ⟨d1, a1, e1, dp1, n1, t1⟩) (c2 := ⟨d2, a2, e2, dp2, n2, t2⟩) HC1.out HO1.out hbel1 hb2⟩)
                  | exact ⟨rfl, madeA2 (c := ⟨d1, a1, e1, dp1, n1, t1⟩) (c2 := ⟨d2, a2, e2, dp2, n2, t2⟩) HC1.out HO1.out hbel1 hb2 _⟩
            case rest =>
              obtain ⟨rfl, hbw, q, rfl, hqne, hqown, hQ, hC2, hO2, hbel2⟩ := hcut
              have HC2 := Lib.hid hC2
              have HO2 := Lib.hid hO2
              clear r0 r1 r2 r3 r4 r5 rf hqown
              obtain ⟨lq, q0, q1, q2, q3, q4, q5, qf⟩ := hQ
              obtain ⟨lr, r0, r1, r2, r3, r4, r5, rf⟩ := hC2
              try simp only at q0 q1 q2 q3 q4 q5 r0 r1 r2 r3 r4 r5
              go_wp2_with fail
              go_roundg (60 - (k + 1))
              case measure => have := Hg.out; omega
              case rel =>
                exact ⟨k + 1, ⟨d2, a2, e2, dp2, n2, t2⟩, st, rfl, by go_num, by omega, by omega, by omega, Hwi.out, Hwfs.out, HC2.out.set6 d2 a2 e2 dp2 n2 t2, HO2.out.set6 (by omega) _ _ _ _ _ _, below6 hbel2 (Nat.le_refl _) _ _ _ _ _ _⟩
          · 
            obtain ⟨c2, hpe⟩ : ∃ c2, pStep ⟨d1, a1, e1, dp1, n1, t1⟩ (K k) (N k) = c2 := ⟨_, rfl⟩
            have hwi : Wf c2 := by rw [← hpe]; exact wf_step Hwf.out Hin.out
            have Hpe := Lib.hid hpe
            have Hwi := Lib.hid hwi
            clear hpe hwi
            obtain ⟨d2, a2, e2, dp2, n2, t2⟩ := c2
            go_upto_region 23 with fail
            go_cut [13, 14] (fun v13 v14 wx => v14 = .bool true ∧ Below v4.heap.size v4 wx ∧ Made w.heap.size w ⟨d1, a1, e1, dp1, n1, t1⟩ ⟨d2, a2, e2, dp2, n2, t2⟩ st u5 v13 wx)
            case first =>
              have hne1 : v4.heap.size ≠ w.heap.size := by omega
              have hne2 : v4.heap.size ≠ b := by omega
              go_region_held3 (fun w' => (w'.cell? ⟨w.heap.size, 0, none⟩ = some (.string d1) ∧ w'.cell? ⟨w.heap.size, 1, none⟩ = some (.int .i64 a1) ∧ w'.cell? ⟨w.heap.size, 2, none⟩ = some (.int .i64 e1) ∧ w'.cell? ⟨w.heap.size, 3, none⟩ = some (.int .i64 dp1) ∧ w'.cell? ⟨w.heap.size, 4, none⟩ = some (.int .i64 n1) ∧ w'.cell? ⟨w.heap.size, 5, none⟩ = some (.int .i64 t1)) ∧ w'.cell? ⟨b, o + k * 2, none⟩ = some (.int .i64 (K k)) ∧ w'.cell? ⟨b, o + k * 2 + 1, none⟩ = some (.int .i64 (N k))) (go_keep)
                (first
                  | (go_at_call 17; refine (step_any ⟨d1, a1, e1, dp1, n1, t1⟩ (K k) (N k) _ Hwf.out Hik.out Hin.out).mono ?_; rintro _ w2 ⟨c3, rfl, k3, hb2⟩; obtain rfl := k3.out.symm.trans Hpe.out; have q0 := cellB hb2 (p := ⟨w.heap.size, 0, none⟩) (v := .string d1) (by go_keep); have q1 := cellB hb2 (p := ⟨w.heap.size, 1, none⟩) (v := .int .i64 a1) (by go_keep); have q2 := cellB hb2 (p := ⟨w.heap.size, 2, none⟩) (v := .int .i64 e1) (by go_keep); have q3 := cellB hb2 (p := ⟨w.heap.size, 3, none⟩) (v := .int .i64 dp1) (by go_keep); have q4 := cellB hb2 (p := ⟨w.heap.size, 4, none⟩) (v := .int .i64 n1) (by go_keep); have q5 := cellB hb2 (p := ⟨w.heap.size, 5, none⟩) (v := .int .i64 t1) (by go_keep); have q6 := cellB hb2 (p := ⟨b, o + k * 2, none⟩) (v := .int .i64 (K k)) (by go_keep); have q7 := cellB hb2 (p := ⟨b, o + k * 2 + 1, none⟩) (v := .int .i64 (N k)) (by go_keep); (first | (have hZ : HasC w2 v4.heap.size ⟨#[]⟩ 0 0 0 0 0 := (has_new v4.drew ⟨#[]⟩ 0 0 0 0 0 23).below hb2; obtain ⟨z, z0, z1, z2, z3, z4, z5, zf⟩ := hZ) | skip)))
              all_goals
                go_wp2_with fail
                go_meet
                first
                  | (have hz0 := z0; exact ⟨rfl, madeB2 (c := ⟨d1, a1, e1, dp1, n1, t1⟩) (c2 := ⟨d2, a2, e2, dp2, n2, t2⟩) HC1.out HO1.out hbel1 hb2⟩)
                  | exact ⟨rfl, madeA2 (c := ⟨d1, a1, e1, dp1, n1, t1⟩) (c2 := ⟨d2, a2, e2, dp2, n2, t2⟩) HC1.out HO1.out hbel1 hb2 _⟩
            case rest =>
              obtain ⟨rfl, hbw, q, rfl, hqne, hqown, hQ, hC2, hO2, hbel2⟩ := hcut
              have HC2 := Lib.hid hC2
              have HO2 := Lib.hid hO2
              clear r0 r1 r2 r3 r4 r5 rf hqown
              obtain ⟨lq, q0, q1, q2, q3, q4, q5, qf⟩ := hQ
              obtain ⟨lr, r0, r1, r2, r3, r4, r5, rf⟩ := hC2
              try simp only at q0 q1 q2 q3 q4 q5 r0 r1 r2 r3 r4 r5
              go_wp2_with fail
              go_roundg (60 - (k + 1))
              case measure => have := Hg.out; omega
              case rel =>
                exact ⟨k + 1, ⟨d2, a2, e2, dp2, n2, t2⟩, st, rfl, by go_num, by omega, by omega, by omega, Hwi.out, Hwfs.out, HC2.out.set6 d2 a2 e2 dp2 n2 t2, HO2.out.set6 (by omega) _ _ _ _ _ _, below6 hbel2 (Nat.le_refl _) _ _ _ _ _ _⟩
    · by_cases hkl : k < L
      · have hk60' : (60 : Int) ≤ k := by omega
        have hkL' : (k : Int) < L := by omega
        go_wp2_with fail
        refine (awake_any _).mono ?_
        rintro _ w3 ⟨rfl, hb3⟩
        go_wp2_with fail
        go_ret
        exact ⟨rfl, hbel.trans (hb3.mono (Nat.le_of_lt hC.lt))⟩
      · have hkL' : (L : Int) ≤ k := by omega
        go_wp2_with fail
        refine (awake_any _).mono ?_
        rintro _ w3 ⟨rfl, hb3⟩
        go_wp2_with fail
        go_ret
        exact ⟨rfl, hbel.trans (hb3.mono (Nat.le_of_lt hC.lt))⟩
end Go.Proofs.Ytdgbbfhhjhhahaa.CursorRunsW
