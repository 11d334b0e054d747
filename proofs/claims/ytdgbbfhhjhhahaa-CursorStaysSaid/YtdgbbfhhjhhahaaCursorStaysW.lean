/- The walk of the law CursorStays. -/
import Derived.Test.YtdgbbfhhjhhahaaCurN
import Derived.Test.YtdgbbfhhjhhahaaCurL
import Derived.Test.YtdgbbfhhjhhahaaCurW
import Derived.Test.YtdgbbfhhjhhahaaStk
import Derived.Deep.RegionHeld3
import Derived.Deep.LoopGhost
import Derived.Deep.DeepCutAuto
namespace Go.Proofs.Ytdgbbfhhjhhahaa.CursorStaysW
open Go.RowKit CurM Has Nums CurA CurC CurL CurS CurN CurW OwnK Stk

/-- What holds at the head of the loop. -/
def Head (w : World) (L : Nat) (k : Nat) (c : Cur) (st : List Cur) (v5 : Value) (wr : World) : Prop :=
  k ≤ L ∧ k ≤ 60 ∧ st.length ≤ k ∧ Stk c st ∧ HasC wr w.heap.size c.d c.a c.e c.dp c.n c.t ∧ OwnK wr (w.heap.size + 1) v5 st ∧ Below w.heap.size w wr

set_option maxRecDepth 100000 in
set_option maxHeartbeats 8000000 in
theorem walk (c : Cur) (A : Option Addr) (L cap : Nat) (K N : Nat → Int) (hc : Wf c) (hL : L ≤ 9223372036854775807) (w : World) (ho : Ops w A L K N) :
    Calls Try.prog 6 #[cv c, .slice A L cap] w fun e w' => e = .returned (.bool true) ∧ Below w.heap.size w w' := by
  have hL1 : (L : Int) ≤ 9223372036854775807 := by omega
  have Hc := Lib.hid hc
  have Ho := Lib.hid ho
  have hcn := hc.n
  obtain ⟨hn1, hn2⟩ := hcn
  clear hc ho
  by_cases hs : sound c = true ∧ 0 ≤ c.n
  · obtain ⟨hs, hn⟩ := hs
    have Hs := Lib.hid hs
    have hst : Stk c [] := Within.refl hs hn Hc.out
    have Hst := Lib.hid hst
    clear hs hst
    obtain ⟨d, a, e, dp, n, t⟩ := c
    simp only at hn hn1 hn2
    have hdec : decide (n < 0) = false := by simp; omega
    go_enter Try.func6, Try.ntmps6
    go_wp2_with fail
    refine (soundR ⟨d, a, e, dp, n, t⟩ _ Hc.out true Hs.out).mono ?_
    rintro _ w1 ⟨rfl, hb⟩
    have hC0 := (has_new _ _ _ _ _ _ _ _).below hb
    obtain ⟨lr, r0, r1, r2, r3, r4, r5, rf⟩ := hC0
    go_wp2_with fail
    have hH : Head w L 0 ⟨d, a, e, dp, n, t⟩ [] (.slice none 0 0) w1 := ⟨by omega, by omega, by simp, Hst.out, HasC.mk lr r0 r1 r2 r3 r4 r5 rf, OwnK.nil _ _, below1t hb⟩
    have HH := Lib.hid hH
    clear r0 r1 r2 r3 r4 r5 rf hH
    go_loopg [5, 6] 60 (fun g v5 v6 wr => ∃ (k : Nat) (c : Cur) (st : List Cur), g = 60 - k ∧ v6 = .int .i64 k ∧ Head w L k c st v5 wr)
    case atStart => exact ⟨0, _, _, rfl, rfl, HH.out⟩
    case round =>
      obtain ⟨k, c, st, hg, rfl, hk, hk60, hsl, hstk, hC, hO, hbel⟩ := hrel
      have Hg := Lib.hid hg
      have Hstk := Lib.hid hstk
      have hself := hstk.self
      have Hself := Lib.hid hself
      have HC := Lib.hid hC
      have HO := Lib.hid hO
      clear hg hstk hself
      by_cases hround : k < L ∧ k < 60
      · obtain ⟨hkL, hk6⟩ := hround
        have hkL' : (k : Int) < L := by omega
        have hk6' : (k : Int) < 60 := by omega
        obtain ⟨b, o, hA, hbl, hck, hcn⟩ := Ho.out.at_ k hkL
        have Hik := Lib.hid (Ho.out.k k hkL)
        have Hin := Lib.hid (Ho.out.n k hkL)
        have hck := (hbel.cell (p := ⟨b, o + k * 2, none⟩) hbl).trans hck
        have hcn := (hbel.cell (p := ⟨b, o + k * 2 + 1, none⟩) hbl).trans hcn
        subst hA
        obtain ⟨d1, a1, e1, dp1, n1, t1⟩ := c
        obtain ⟨lr, r0, r1, r2, r3, r4, r5, rf⟩ := hC
        by_cases h5 : K k = 5
        · 
          rw [h5] at hck
          clear h5
          obtain ⟨c2, x2, hpe⟩ : ∃ c2 x2, pEnter ⟨d1, a1, e1, dp1, n1, t1⟩ (N k) = (c2, x2) := ⟨_, _, rfl⟩
          have Hpe := Lib.hid hpe
          have hwi : Within c2 ⟨d1, a1, e1, dp1, n1, t1⟩ := by
            have := within_enter (n := N k) Hself.out.s Hself.out.z Hself.out.w
            rw [hpe] at this
            exact this
          have hcase : (0 < x2 ∧ c2 = ⟨d1, a1, e1, dp1, n1, t1⟩) ∨ x2 = 0 := by
            rcases enter_cases ⟨d1, a1, e1, dp1, n1, t1⟩ (N k) with ⟨y, hy, he⟩ | ⟨_, _, _, he⟩
            · rw [hpe] at he
              injection he with he1 he2
              exact .inl ⟨by omega, he1⟩
            · rw [hpe] at he
              injection he with he1 he2
              exact .inr he2
          have Hwi := Lib.hid hwi
          have Hcase := Lib.hid hcase
          clear hpe hwi hcase
          obtain ⟨d2, a2, e2, dp2, n2, t2⟩ := c2
          go_upto_region 8 with fail
          go_cut [7, 8] (fun v7 v8 wx => v8 = .int .i64 x2 ∧ Made w.heap.size w ⟨d1, a1, e1, dp1, n1, t1⟩ ⟨d2, a2, e2, dp2, n2, t2⟩ st u5 v7 wx)
          case first =>
            have hne1 : wr.heap.size ≠ w.heap.size := by omega
            have hne2 : wr.heap.size ≠ b := by omega
            go_region_held3 (fun w' => (w'.cell? ⟨w.heap.size, 0, none⟩ = some (.string d1) ∧ w'.cell? ⟨w.heap.size, 1, none⟩ = some (.int .i64 a1) ∧ w'.cell? ⟨w.heap.size, 2, none⟩ = some (.int .i64 e1) ∧ w'.cell? ⟨w.heap.size, 3, none⟩ = some (.int .i64 dp1) ∧ w'.cell? ⟨w.heap.size, 4, none⟩ = some (.int .i64 n1) ∧ w'.cell? ⟨w.heap.size, 5, none⟩ = some (.int .i64 t1)) ∧ w'.cell? ⟨b, o + k * 2 + 1, none⟩ = some (.int .i64 (N k))) (go_keep)
              (first
                | (go_at_call 13; refine (enterP ⟨d1, a1, e1, dp1, n1, t1⟩ (N k) _ Hself.out.w Hin.out).mono ?_; rintro _ w2 ⟨c3, x3, rfl, k3, hb2⟩; obtain ⟨rfl, rfl⟩ := inj2 k3.out Hpe.out; have q0 := cellB hb2 (p := ⟨w.heap.size, 0, none⟩) (v := .string d1) (by go_keep); have q1 := cellB hb2 (p := ⟨w.heap.size, 1, none⟩) (v := .int .i64 a1) (by go_keep); have q2 := cellB hb2 (p := ⟨w.heap.size, 2, none⟩) (v := .int .i64 e1) (by go_keep); have q3 := cellB hb2 (p := ⟨w.heap.size, 3, none⟩) (v := .int .i64 dp1) (by go_keep); have q4 := cellB hb2 (p := ⟨w.heap.size, 4, none⟩) (v := .int .i64 n1) (by go_keep); have q5 := cellB hb2 (p := ⟨w.heap.size, 5, none⟩) (v := .int .i64 t1) (by go_keep); have q6 := cellB hb2 (p := ⟨b, o + k * 2 + 1, none⟩) (v := .int .i64 (N k)) (by go_keep); (first | (have hZ : HasC w2 wr.heap.size ⟨#[]⟩ 0 0 0 0 0 := (has_new wr.drew ⟨#[]⟩ 0 0 0 0 0 23).below hb2; obtain ⟨z, z0, z1, z2, z3, z4, z5, zf⟩ := hZ) | skip)))
            all_goals
              go_wp2_with fail
              go_meet
              first
                | exact ⟨rfl, madeA HC.out HO.out hbel hb2 _⟩
                | exact ⟨rfl, madeB HC.out HO.out hbel hb2⟩
          case rest =>
            obtain ⟨rfl, q, rfl, hqne, hqown, hQ, hC2, hO2, hbel2⟩ := hcut
            have HQ := Lib.hid hQ
            have Hqown := Lib.hid hqown
            clear hqown
            have HC2 := Lib.hid hC2
            have HO2 := Lib.hid hO2
            clear r0 r1 r2 r3 r4 r5 rf
            obtain ⟨lq, q0, q1, q2, q3, q4, q5, qf⟩ := hQ
            obtain ⟨lr, r0, r1, r2, r3, r4, r5, rf⟩ := hC2
            try simp only at q0 q1 q2 q3 q4 q5 r0 r1 r2 r3 r4 r5
            go_wp2_with fail
            refine (within_any ⟨d2, a2, e2, dp2, n2, t2⟩ ⟨d1, a1, e1, dp1, n1, t1⟩ _ Hwi.out).mono ?_
            rintro _ w3 ⟨rfl, hb3⟩
            have hQ := HQ.out.below hb3
            have hC3 := HC2.out.below hb3
            have hO3 := HO2.out.below hb3
            have hbel3 := hbel2.trans (hb3.mono (Nat.le_of_lt lr))
            have HQ3 := Lib.hid hQ
            have HC3 := Lib.hid hC3
            have HO3 := Lib.hid hO3
            clear r0 r1 r2 r3 r4 r5 rf q0 q1 q2 q3 q4 q5 qf
            rcases Hcase.out with ⟨hx, he⟩ | hx
            · have He := Lib.hid he
              clear he
              go_wp2_with fail
              go_roundg (60 - (k + 1))
              case measure => have := Hg.out; omega
              case rel =>
                exact ⟨k + 1, ⟨d1, a1, e1, dp1, n1, t1⟩, st, rfl, by go_num, by omega, by omega, by omega, Hstk.out, HC3.out, HO3.out, hbel3⟩
            · subst hx
              obtain ⟨lq3, q0, q1, q2, q3, q4, q5, qf⟩ := hQ
              obtain ⟨lr3, r0, r1, r2, r3, r4, r5, rf⟩ := hC3
              try simp only at q0 q1 q2 q3 q4 q5 r0 r1 r2 r3 r4 r5
              go_wp2_with (at_builtin; refine wpList_push rfl (.tmp 60) (.tmp 62) rfl (w.heap.size + 1) _ st ⟨d1, a1, e1, dp1, n1, t1⟩ rfl (HO3.out.alloc _) w3.heap.size 1 rfl ?_ (has_new _ _ _ _ _ _ _ _) (by omega) (by simp; omega); intro v' w4 hown4 hb4 hg4; have hQ4 := (HQ3.out.alloc (.cells #[.string d1, .int .i64 a1, .int .i64 e1, .int .i64 dp1, .int .i64 n1, .int .i64 t1] 23)).grown Hqown.out hg4; have hC4 := (HC3.out.alloc (.cells #[.string d1, .int .i64 a1, .int .i64 e1, .int .i64 dp1, .int .i64 n1, .int .i64 t1] 23)).belowB (by omega) hb4; have hbel4 := (hbel3.alloc (Nat.le_of_lt lr3) (.cells #[.string d1, .int .i64 a1, .int .i64 e1, .int .i64 dp1, .int .i64 n1, .int .i64 t1] 23)).trans (hb4.mono (by omega)); have HQ4 := Lib.hid hQ4; have HC4 := Lib.hid hC4; obtain ⟨lq4, s0, s1, s2, s3, s4, s5, sf⟩ := hQ4; obtain ⟨lr4, t0', t1', t2', t3', t4', t5', tf'⟩ := hC4)
              go_roundg (60 - (k + 1))
              case measure => have := Hg.out; omega
              case rel =>
                exact ⟨k + 1, ⟨d2, a2, e2, dp2, n2, t2⟩, ⟨d1, a1, e1, dp1, n1, t1⟩ :: st, rfl, by go_num, by omega, by omega, by simp only [List.length_cons]; omega, Hstk.out.push Hwi.out, HC4.out.set6 d2 a2 e2 dp2 n2 t2, hown4.set6 (by omega) _ _ _ _ _ _, below6 hbel4 (Nat.le_refl _) _ _ _ _ _ _⟩

        · by_cases h6 : K k = 6
          · cases st with
            | cons o1 st =>
              rw [h6] at hck
              clear h6
              have htop := HO.out.top
              obtain ⟨d3, a3, e3, dp3, n3, t3⟩ := o1
              have hst1 := Hstk.out.1
              obtain rfl : d1 = d3 := hst1.d
              obtain ⟨g, cap2, rfl, hgb, hcap2, hT, hOp⟩ := htop
              have HT := Lib.hid hT
              have HOp := Lib.hid hOp
              simp only [List.length_cons] at hsl
              clear hOp hst1
              obtain ⟨lt, f0, f1, f2, f3, f4, f5⟩ := hT
              simp only at f0 f1 f2 f3 f4 f5
              have hm60 : st.length ≤ 60 := by omega
              have hw1 : IntKind.i64.wrap ((st.length : Int) + 1 - 1) = st.length := by rw [IntWalk.i64_in _ (by omega)]; omega
              have hw2 : IntKind.i64.wrap (st.length : Int) = st.length := by rw [IntWalk.i64_in _ (by omega)]
              have hi0 : (0 : Int) ≤ st.length := by omega
              have hi1 : (st.length : Int) < (st.length : Int) + 1 := by omega
              have hcapI : (st.length : Int) ≤ cap2 := by omega
              have hlv : pLeave ⟨d1, a3, e3, dp3, n3, t3⟩ ⟨d1, a1, e1, dp1, n1, t1⟩ = ⟨d1, e1, e3, dp3, n1, t3⟩ := leave_within Hstk.out.1 Hstk.out.2.self
              have Hlv := Lib.hid hlv
              have hpop := Hstk.out.pop
              have Hpop := Lib.hid hpop
              have Hwo := Lib.hid Hstk.out.2.self.w
              clear hlv hpop
              go_upto_region 16 with fail
              go_cut [10] (fun v10 wx => Made w.heap.size w ⟨d1, a1, e1, dp1, n1, t1⟩ ⟨d1, e1, e3, dp3, n1, t3⟩ (⟨d1, a3, e3, dp3, n3, t3⟩ :: st) (.slice (some ⟨g, 0, none⟩) (st.length + 1) cap2) v10 wx)
              case first =>
                have hne1 : wr.heap.size ≠ w.heap.size := by omega
                have hne2 : wr.heap.size ≠ b := by omega
                have hne3 : wr.heap.size ≠ g := by omega
                go_region_held3 (fun w' => (w'.cell? ⟨w.heap.size, 0, none⟩ = some (.string d1) ∧ w'.cell? ⟨w.heap.size, 1, none⟩ = some (.int .i64 a1) ∧ w'.cell? ⟨w.heap.size, 2, none⟩ = some (.int .i64 e1) ∧ w'.cell? ⟨w.heap.size, 3, none⟩ = some (.int .i64 dp1) ∧ w'.cell? ⟨w.heap.size, 4, none⟩ = some (.int .i64 n1) ∧ w'.cell? ⟨w.heap.size, 5, none⟩ = some (.int .i64 t1)) ∧ (w'.cell? ⟨g, st.length * 6, none⟩ = some (.string d1) ∧ w'.cell? ⟨g, st.length * 6 + 1, none⟩ = some (.int .i64 a3) ∧ w'.cell? ⟨g, st.length * 6 + 2, none⟩ = some (.int .i64 e3) ∧ w'.cell? ⟨g, st.length * 6 + 3, none⟩ = some (.int .i64 dp3) ∧ w'.cell? ⟨g, st.length * 6 + 4, none⟩ = some (.int .i64 n3) ∧ w'.cell? ⟨g, st.length * 6 + 5, none⟩ = some (.int .i64 t3))) (go_keep)
                  (first
                    | (go_at_call 15; refine (leaveP ⟨d1, a3, e3, dp3, n3, t3⟩ ⟨d1, a1, e1, dp1, n1, t1⟩ _ Hwo.out Hself.out.w).mono ?_; rintro _ w2 ⟨c3, rfl, k3, hb2⟩; obtain rfl := k3.out.symm.trans Hlv.out; have q0 := cellB hb2 (p := ⟨w.heap.size, 0, none⟩) (v := .string d1) (by go_keep); have q1 := cellB hb2 (p := ⟨w.heap.size, 1, none⟩) (v := .int .i64 a1) (by go_keep); have q2 := cellB hb2 (p := ⟨w.heap.size, 2, none⟩) (v := .int .i64 e1) (by go_keep); have q3 := cellB hb2 (p := ⟨w.heap.size, 3, none⟩) (v := .int .i64 dp1) (by go_keep); have q4 := cellB hb2 (p := ⟨w.heap.size, 4, none⟩) (v := .int .i64 n1) (by go_keep); have q5 := cellB hb2 (p := ⟨w.heap.size, 5, none⟩) (v := .int .i64 t1) (by go_keep); have q6 := cellB hb2 (p := ⟨g, st.length * 6, none⟩) (v := .string d1) (by go_keep); have q7 := cellB hb2 (p := ⟨g, st.length * 6 + 1, none⟩) (v := .int .i64 a3) (by go_keep); have q8 := cellB hb2 (p := ⟨g, st.length * 6 + 2, none⟩) (v := .int .i64 e3) (by go_keep); have q9 := cellB hb2 (p := ⟨g, st.length * 6 + 3, none⟩) (v := .int .i64 dp3) (by go_keep); have q10 := cellB hb2 (p := ⟨g, st.length * 6 + 4, none⟩) (v := .int .i64 n3) (by go_keep); have q11 := cellB hb2 (p := ⟨g, st.length * 6 + 5, none⟩) (v := .int .i64 t3) (by go_keep); (first | (have hZ : HasC w2 wr.heap.size ⟨#[]⟩ 0 0 0 0 0 := (has_new wr.drew ⟨#[]⟩ 0 0 0 0 0 23).below hb2; obtain ⟨z, z0, z1, z2, z3, z4, z5, zf⟩ := hZ) | skip)))
                all_goals
                  go_wp2_with fail
                  go_meet
                  first
                    | exact madeA HC.out HO.out hbel hb2 _
                    | exact madeB HC.out HO.out hbel hb2
              case rest =>
                obtain ⟨q, rfl, hqne, hqown, hQ, hC2, hO2, hbel2⟩ := hcut
                have HQ := Lib.hid hQ
                have HC2 := Lib.hid hC2
                have HO2 := Lib.hid hO2
                clear r0 r1 r2 r3 r4 r5 rf f0 f1 f2 f3 f4 f5 hqown
                have hT2 := hO2.topAt.1
                have HT2 := Lib.hid hT2
                obtain ⟨lq, q0, q1, q2, q3, q4, q5, qf⟩ := hQ
                obtain ⟨lr, r0, r1, r2, r3, r4, r5, rf⟩ := hC2
                obtain ⟨lt2, f0, f1, f2, f3, f4, f5⟩ := hT2
                try simp only at q0 q1 q2 q3 q4 q5 r0 r1 r2 r3 r4 r5 f0 f1 f2 f3 f4 f5
                have hle1 : a1 ≤ e1 := (sound_iff.1 Hself.out.s).2.1
                have hdec1 : decide (e1 < a1) = false := by simp; omega
                go_upto_region 17 with fail
                go_region_held3 (fun w' => (w'.cell? ⟨q, 0, none⟩ = some (.string d1) ∧ w'.cell? ⟨q, 1, none⟩ = some (.int .i64 e1) ∧ w'.cell? ⟨q, 2, none⟩ = some (.int .i64 e3) ∧ w'.cell? ⟨q, 3, none⟩ = some (.int .i64 dp3) ∧ w'.cell? ⟨q, 4, none⟩ = some (.int .i64 n1) ∧ w'.cell? ⟨q, 5, none⟩ = some (.int .i64 t3)) ∧ (w'.cell? ⟨w.heap.size, 0, none⟩ = some (.string d1) ∧ w'.cell? ⟨w.heap.size, 1, none⟩ = some (.int .i64 a1) ∧ w'.cell? ⟨w.heap.size, 2, none⟩ = some (.int .i64 e1) ∧ w'.cell? ⟨w.heap.size, 3, none⟩ = some (.int .i64 dp1) ∧ w'.cell? ⟨w.heap.size, 4, none⟩ = some (.int .i64 n1) ∧ w'.cell? ⟨w.heap.size, 5, none⟩ = some (.int .i64 t1)) ∧ (w'.cell? ⟨g, st.length * 6, none⟩ = some (.string d1) ∧ w'.cell? ⟨g, st.length * 6 + 1, none⟩ = some (.int .i64 a3) ∧ w'.cell? ⟨g, st.length * 6 + 2, none⟩ = some (.int .i64 e3) ∧ w'.cell? ⟨g, st.length * 6 + 3, none⟩ = some (.int .i64 dp3) ∧ w'.cell? ⟨g, st.length * 6 + 4, none⟩ = some (.int .i64 n3) ∧ w'.cell? ⟨g, st.length * 6 + 5, none⟩ = some (.int .i64 t3))) (go_keep)
                  (first
                    | (go_at_call 21; refine (within_any ⟨d1, e1, e3, dp3, n1, t3⟩ ⟨d1, a3, e3, dp3, n3, t3⟩ _ Hpop.out.1).mono ?_; rintro _ w3 ⟨rfl, hb3⟩; have hQ3 := HQ.out.drew.below hb3; have hC3 := HC2.out.drew.below hb3; have hT3 := (HT2.out.below (Below.refl _ _).drew).below hb3; have hO3 := HO2.out.drew.below hb3; have hbel3 := hbel2.drew.trans (hb3.mono (Nat.le_of_lt lr)); have HC3 := Lib.hid hC3; have HO3 := Lib.hid hO3; obtain ⟨lq3, q0, q1, q2, q3, q4, q5, qf⟩ := hQ3; obtain ⟨lr3, r0, r1, r2, r3, r4, r5, rf⟩ := hC3; obtain ⟨lt3, f0, f1, f2, f3, f4, f5⟩ := hT3))
                all_goals
                  go_wp2_with fail
                  go_roundg (60 - (k + 1))
                  case measure => have := Hg.out; omega
                  case rel =>
                    exact ⟨k + 1, ⟨d1, e1, e3, dp3, n1, t3⟩, st, rfl, by go_num, by omega, by omega, by omega, Hpop.out.2, HC3.out.set6 d1 e1 e3 dp3 n1 t3, HO3.out.topAt.2.set6 (by omega) _ _ _ _ _ _, below6 hbel3 (Nat.le_refl _) _ _ _ _ _ _⟩
            | nil =>
              obtain ⟨a5, cap5, rfl⟩ := HO.out.len
              rw [h6] at hck
              have Hik : Hid (inI 6) := Lib.hid (by unfold inI; omega)
              clear h6
              obtain ⟨c2, hpe⟩ : ∃ c2, pStep ⟨d1, a1, e1, dp1, n1, t1⟩ (6) (N k) = c2 := ⟨_, rfl⟩
              have Hpe := Lib.hid hpe
              have hwi : Within c2 ⟨d1, a1, e1, dp1, n1, t1⟩ := by
                have := within_step (k := 6) (n := N k) Hself.out.s Hself.out.z Hself.out.w Hin.out
                rw [hpe] at this
                exact this
              have Hwi := Lib.hid hwi
              clear hpe hwi
              obtain ⟨d2, a2, e2, dp2, n2, t2⟩ := c2
              go_upto_region 21 with fail
              go_cut [11] (fun v11 wx => Made w.heap.size w ⟨d1, a1, e1, dp1, n1, t1⟩ ⟨d2, a2, e2, dp2, n2, t2⟩ [] (.slice a5 0 cap5) v11 wx)
              case first =>
                have hne1 : wr.heap.size ≠ w.heap.size := by omega
                have hne2 : wr.heap.size ≠ b := by omega
                go_region_held3 (fun w' => (w'.cell? ⟨w.heap.size, 0, none⟩ = some (.string d1) ∧ w'.cell? ⟨w.heap.size, 1, none⟩ = some (.int .i64 a1) ∧ w'.cell? ⟨w.heap.size, 2, none⟩ = some (.int .i64 e1) ∧ w'.cell? ⟨w.heap.size, 3, none⟩ = some (.int .i64 dp1) ∧ w'.cell? ⟨w.heap.size, 4, none⟩ = some (.int .i64 n1) ∧ w'.cell? ⟨w.heap.size, 5, none⟩ = some (.int .i64 t1)) ∧ w'.cell? ⟨b, o + k * 2, none⟩ = some (.int .i64 (6)) ∧ w'.cell? ⟨b, o + k * 2 + 1, none⟩ = some (.int .i64 (N k))) (go_keep)
                  (first
                    | (go_at_call 22; refine (next_any ⟨d1, a1, e1, dp1, n1, t1⟩ (6) (N k) _ Hself.out.w Hik.out Hin.out).mono ?_; rintro _ w2 ⟨c3, rfl, k3, hb2⟩; obtain rfl := k3.out.symm.trans Hpe.out; have q0 := cellB hb2 (p := ⟨w.heap.size, 0, none⟩) (v := .string d1) (by go_keep); have q1 := cellB hb2 (p := ⟨w.heap.size, 1, none⟩) (v := .int .i64 a1) (by go_keep); have q2 := cellB hb2 (p := ⟨w.heap.size, 2, none⟩) (v := .int .i64 e1) (by go_keep); have q3 := cellB hb2 (p := ⟨w.heap.size, 3, none⟩) (v := .int .i64 dp1) (by go_keep); have q4 := cellB hb2 (p := ⟨w.heap.size, 4, none⟩) (v := .int .i64 n1) (by go_keep); have q5 := cellB hb2 (p := ⟨w.heap.size, 5, none⟩) (v := .int .i64 t1) (by go_keep); have q6 := cellB hb2 (p := ⟨b, o + k * 2, none⟩) (v := .int .i64 (6)) (by go_keep); have q7 := cellB hb2 (p := ⟨b, o + k * 2 + 1, none⟩) (v := .int .i64 (N k)) (by go_keep); (first | (have hZ : HasC w2 wr.heap.size ⟨#[]⟩ 0 0 0 0 0 := (has_new wr.drew ⟨#[]⟩ 0 0 0 0 0 23).below hb2; obtain ⟨z, z0, z1, z2, z3, z4, z5, zf⟩ := hZ) | skip)))
                all_goals
                  go_wp2_with fail
                  go_meet
                  first
                    | exact madeA HC.out HO.out hbel hb2 _
                    | exact madeB HC.out HO.out hbel hb2
              case rest =>
                obtain ⟨q, rfl, hqne, hqown, hQ, hC2, hO2, hbel2⟩ := hcut
                have HQ := Lib.hid hQ
                have HC2 := Lib.hid hC2
                have HO2 := Lib.hid hO2
                clear r0 r1 r2 r3 r4 r5 rf hqown
                obtain ⟨lq, q0, q1, q2, q3, q4, q5, qf⟩ := hQ
                obtain ⟨lr, r0, r1, r2, r3, r4, r5, rf⟩ := hC2
                try simp only at q0 q1 q2 q3 q4 q5 r0 r1 r2 r3 r4 r5
                go_wp2_with fail
                refine (within_any ⟨d2, a2, e2, dp2, n2, t2⟩ ⟨d1, a1, e1, dp1, n1, t1⟩ _ Hwi.out).mono ?_
                rintro _ w3 ⟨rfl, hb3⟩
                have hQ3 := HQ.out.below hb3
                have hC3 := HC2.out.below hb3
                have hO3 := HO2.out.below hb3
                have hbel3 := hbel2.trans (hb3.mono (Nat.le_of_lt lr))
                have HC3 := Lib.hid hC3
                have HO3 := Lib.hid hO3
                clear r0 r1 r2 r3 r4 r5 rf q0 q1 q2 q3 q4 q5 qf
                obtain ⟨lq3, q0, q1, q2, q3, q4, q5, qf⟩ := hQ3
                obtain ⟨lr3, r0, r1, r2, r3, r4, r5, rf⟩ := hC3
                try simp only at q0 q1 q2 q3 q4 q5 r0 r1 r2 r3 r4 r5
                go_wp2_with fail
                go_roundg (60 - (k + 1))
                case measure => have := Hg.out; omega
                case rel =>
                  exact ⟨k + 1, ⟨d2, a2, e2, dp2, n2, t2⟩, [], rfl, by go_num, by omega, by omega, by omega, Hstk.out.step Hwi.out, HC3.out.set6 d2 a2 e2 dp2 n2 t2, HO3.out.set6 (by omega) _ _ _ _ _ _, below6 hbel3 (Nat.le_refl _) _ _ _ _ _ _⟩
          · have h56 : K k < 5 ∨ 6 < K k := by omega
            have Hik := Ho.out.k k hkL
            have Hik := Lib.hid Hik
            clear h5 h6
            obtain ⟨a5, cap5, hu5⟩ := HO.out.len
            subst hu5
            rcases h56 with h56 | h56
            · 
              obtain ⟨c2, hpe⟩ : ∃ c2, pStep ⟨d1, a1, e1, dp1, n1, t1⟩ (K k) (N k) = c2 := ⟨_, rfl⟩
              have Hpe := Lib.hid hpe
              have hwi : Within c2 ⟨d1, a1, e1, dp1, n1, t1⟩ := by
                have := within_step (k := K k) (n := N k) Hself.out.s Hself.out.z Hself.out.w Hin.out
                rw [hpe] at this
                exact this
              have Hwi := Lib.hid hwi
              clear hpe hwi
              obtain ⟨d2, a2, e2, dp2, n2, t2⟩ := c2
              go_upto_region 21 with fail
              go_cut [11] (fun v11 wx => Made w.heap.size w ⟨d1, a1, e1, dp1, n1, t1⟩ ⟨d2, a2, e2, dp2, n2, t2⟩ st (.slice a5 st.length cap5) v11 wx)
              case first =>
                have hne1 : wr.heap.size ≠ w.heap.size := by omega
                have hne2 : wr.heap.size ≠ b := by omega
                go_region_held3 (fun w' => (w'.cell? ⟨w.heap.size, 0, none⟩ = some (.string d1) ∧ w'.cell? ⟨w.heap.size, 1, none⟩ = some (.int .i64 a1) ∧ w'.cell? ⟨w.heap.size, 2, none⟩ = some (.int .i64 e1) ∧ w'.cell? ⟨w.heap.size, 3, none⟩ = some (.int .i64 dp1) ∧ w'.cell? ⟨w.heap.size, 4, none⟩ = some (.int .i64 n1) ∧ w'.cell? ⟨w.heap.size, 5, none⟩ = some (.int .i64 t1)) ∧ w'.cell? ⟨b, o + k * 2, none⟩ = some (.int .i64 (K k)) ∧ w'.cell? ⟨b, o + k * 2 + 1, none⟩ = some (.int .i64 (N k))) (go_keep)
                  (first
                    | (go_at_call 22; refine (next_any ⟨d1, a1, e1, dp1, n1, t1⟩ (K k) (N k) _ Hself.out.w Hik.out Hin.out).mono ?_; rintro _ w2 ⟨c3, rfl, k3, hb2⟩; obtain rfl := k3.out.symm.trans Hpe.out; have q0 := cellB hb2 (p := ⟨w.heap.size, 0, none⟩) (v := .string d1) (by go_keep); have q1 := cellB hb2 (p := ⟨w.heap.size, 1, none⟩) (v := .int .i64 a1) (by go_keep); have q2 := cellB hb2 (p := ⟨w.heap.size, 2, none⟩) (v := .int .i64 e1) (by go_keep); have q3 := cellB hb2 (p := ⟨w.heap.size, 3, none⟩) (v := .int .i64 dp1) (by go_keep); have q4 := cellB hb2 (p := ⟨w.heap.size, 4, none⟩) (v := .int .i64 n1) (by go_keep); have q5 := cellB hb2 (p := ⟨w.heap.size, 5, none⟩) (v := .int .i64 t1) (by go_keep); have q6 := cellB hb2 (p := ⟨b, o + k * 2, none⟩) (v := .int .i64 (K k)) (by go_keep); have q7 := cellB hb2 (p := ⟨b, o + k * 2 + 1, none⟩) (v := .int .i64 (N k)) (by go_keep); (first | (have hZ : HasC w2 wr.heap.size ⟨#[]⟩ 0 0 0 0 0 := (has_new wr.drew ⟨#[]⟩ 0 0 0 0 0 23).below hb2; obtain ⟨z, z0, z1, z2, z3, z4, z5, zf⟩ := hZ) | skip)))
                all_goals
                  go_wp2_with fail
                  go_meet
                  first
                    | exact madeA HC.out HO.out hbel hb2 _
                    | exact madeB HC.out HO.out hbel hb2
              case rest =>
                obtain ⟨q, rfl, hqne, hqown, hQ, hC2, hO2, hbel2⟩ := hcut
                have HQ := Lib.hid hQ
                have HC2 := Lib.hid hC2
                have HO2 := Lib.hid hO2
                clear r0 r1 r2 r3 r4 r5 rf hqown
                obtain ⟨lq, q0, q1, q2, q3, q4, q5, qf⟩ := hQ
                obtain ⟨lr, r0, r1, r2, r3, r4, r5, rf⟩ := hC2
                try simp only at q0 q1 q2 q3 q4 q5 r0 r1 r2 r3 r4 r5
                go_wp2_with fail
                refine (within_any ⟨d2, a2, e2, dp2, n2, t2⟩ ⟨d1, a1, e1, dp1, n1, t1⟩ _ Hwi.out).mono ?_
                rintro _ w3 ⟨rfl, hb3⟩
                have hQ3 := HQ.out.below hb3
                have hC3 := HC2.out.below hb3
                have hO3 := HO2.out.below hb3
                have hbel3 := hbel2.trans (hb3.mono (Nat.le_of_lt lr))
                have HC3 := Lib.hid hC3
                have HO3 := Lib.hid hO3
                clear r0 r1 r2 r3 r4 r5 rf q0 q1 q2 q3 q4 q5 qf
                obtain ⟨lq3, q0, q1, q2, q3, q4, q5, qf⟩ := hQ3
                obtain ⟨lr3, r0, r1, r2, r3, r4, r5, rf⟩ := hC3
                try simp only at q0 q1 q2 q3 q4 q5 r0 r1 r2 r3 r4 r5
                go_wp2_with fail
                go_roundg (60 - (k + 1))
                case measure => have := Hg.out; omega
                case rel =>
                  exact ⟨k + 1, ⟨d2, a2, e2, dp2, n2, t2⟩, st, rfl, by go_num, by omega, by omega, by omega, Hstk.out.step Hwi.out, HC3.out.set6 d2 a2 e2 dp2 n2 t2, HO3.out.set6 (by omega) _ _ _ _ _ _, below6 hbel3 (Nat.le_refl _) _ _ _ _ _ _⟩
            · 
              obtain ⟨c2, hpe⟩ : ∃ c2, pStep ⟨d1, a1, e1, dp1, n1, t1⟩ (K k) (N k) = c2 := ⟨_, rfl⟩
              have Hpe := Lib.hid hpe
              have hwi : Within c2 ⟨d1, a1, e1, dp1, n1, t1⟩ := by
                have := within_step (k := K k) (n := N k) Hself.out.s Hself.out.z Hself.out.w Hin.out
                rw [hpe] at this
                exact this
              have Hwi := Lib.hid hwi
              clear hpe hwi
              obtain ⟨d2, a2, e2, dp2, n2, t2⟩ := c2
              go_upto_region 21 with fail
              go_cut [11] (fun v11 wx => Made w.heap.size w ⟨d1, a1, e1, dp1, n1, t1⟩ ⟨d2, a2, e2, dp2, n2, t2⟩ st (.slice a5 st.length cap5) v11 wx)
              case first =>
                have hne1 : wr.heap.size ≠ w.heap.size := by omega
                have hne2 : wr.heap.size ≠ b := by omega
                go_region_held3 (fun w' => (w'.cell? ⟨w.heap.size, 0, none⟩ = some (.string d1) ∧ w'.cell? ⟨w.heap.size, 1, none⟩ = some (.int .i64 a1) ∧ w'.cell? ⟨w.heap.size, 2, none⟩ = some (.int .i64 e1) ∧ w'.cell? ⟨w.heap.size, 3, none⟩ = some (.int .i64 dp1) ∧ w'.cell? ⟨w.heap.size, 4, none⟩ = some (.int .i64 n1) ∧ w'.cell? ⟨w.heap.size, 5, none⟩ = some (.int .i64 t1)) ∧ w'.cell? ⟨b, o + k * 2, none⟩ = some (.int .i64 (K k)) ∧ w'.cell? ⟨b, o + k * 2 + 1, none⟩ = some (.int .i64 (N k))) (go_keep)
                  (first
                    | (go_at_call 22; refine (next_any ⟨d1, a1, e1, dp1, n1, t1⟩ (K k) (N k) _ Hself.out.w Hik.out Hin.out).mono ?_; rintro _ w2 ⟨c3, rfl, k3, hb2⟩; obtain rfl := k3.out.symm.trans Hpe.out; have q0 := cellB hb2 (p := ⟨w.heap.size, 0, none⟩) (v := .string d1) (by go_keep); have q1 := cellB hb2 (p := ⟨w.heap.size, 1, none⟩) (v := .int .i64 a1) (by go_keep); have q2 := cellB hb2 (p := ⟨w.heap.size, 2, none⟩) (v := .int .i64 e1) (by go_keep); have q3 := cellB hb2 (p := ⟨w.heap.size, 3, none⟩) (v := .int .i64 dp1) (by go_keep); have q4 := cellB hb2 (p := ⟨w.heap.size, 4, none⟩) (v := .int .i64 n1) (by go_keep); have q5 := cellB hb2 (p := ⟨w.heap.size, 5, none⟩) (v := .int .i64 t1) (by go_keep); have q6 := cellB hb2 (p := ⟨b, o + k * 2, none⟩) (v := .int .i64 (K k)) (by go_keep); have q7 := cellB hb2 (p := ⟨b, o + k * 2 + 1, none⟩) (v := .int .i64 (N k)) (by go_keep); (first | (have hZ : HasC w2 wr.heap.size ⟨#[]⟩ 0 0 0 0 0 := (has_new wr.drew ⟨#[]⟩ 0 0 0 0 0 23).below hb2; obtain ⟨z, z0, z1, z2, z3, z4, z5, zf⟩ := hZ) | skip)))
                all_goals
                  go_wp2_with fail
                  go_meet
                  first
                    | exact madeA HC.out HO.out hbel hb2 _
                    | exact madeB HC.out HO.out hbel hb2
              case rest =>
                obtain ⟨q, rfl, hqne, hqown, hQ, hC2, hO2, hbel2⟩ := hcut
                have HQ := Lib.hid hQ
                have HC2 := Lib.hid hC2
                have HO2 := Lib.hid hO2
                clear r0 r1 r2 r3 r4 r5 rf hqown
                obtain ⟨lq, q0, q1, q2, q3, q4, q5, qf⟩ := hQ
                obtain ⟨lr, r0, r1, r2, r3, r4, r5, rf⟩ := hC2
                try simp only at q0 q1 q2 q3 q4 q5 r0 r1 r2 r3 r4 r5
                go_wp2_with fail
                refine (within_any ⟨d2, a2, e2, dp2, n2, t2⟩ ⟨d1, a1, e1, dp1, n1, t1⟩ _ Hwi.out).mono ?_
                rintro _ w3 ⟨rfl, hb3⟩
                have hQ3 := HQ.out.below hb3
                have hC3 := HC2.out.below hb3
                have hO3 := HO2.out.below hb3
                have hbel3 := hbel2.trans (hb3.mono (Nat.le_of_lt lr))
                have HC3 := Lib.hid hC3
                have HO3 := Lib.hid hO3
                clear r0 r1 r2 r3 r4 r5 rf q0 q1 q2 q3 q4 q5 qf
                obtain ⟨lq3, q0, q1, q2, q3, q4, q5, qf⟩ := hQ3
                obtain ⟨lr3, r0, r1, r2, r3, r4, r5, rf⟩ := hC3
                try simp only at q0 q1 q2 q3 q4 q5 r0 r1 r2 r3 r4 r5
                go_wp2_with fail
                go_roundg (60 - (k + 1))
                case measure => have := Hg.out; omega
                case rel =>
                  exact ⟨k + 1, ⟨d2, a2, e2, dp2, n2, t2⟩, st, rfl, by go_num, by omega, by omega, by omega, Hstk.out.step Hwi.out, HC3.out.set6 d2 a2 e2 dp2 n2 t2, HO3.out.set6 (by omega) _ _ _ _ _ _, below6 hbel3 (Nat.le_refl _) _ _ _ _ _ _⟩
      · by_cases hkl : k < L
        · have hk60' : (60 : Int) ≤ k := by omega
          have hkL' : (k : Int) < L := by omega
          go_wp2_with fail
          refine (awake_any _).mono ?_
          rintro _ w3 ⟨rfl, hb3⟩
          go_wp2_with fail
          go_ret
          exact ⟨rfl, hbel.trans (hb3.mono (Nat.le_of_lt hC.lt))⟩
        · have hkL' : (L : Int) ≤ k := by omega
          go_wp2_with fail
          refine (awake_any _).mono ?_
          rintro _ w3 ⟨rfl, hb3⟩
          go_wp2_with fail
          go_ret
          exact ⟨rfl, hbel.trans (hb3.mono (Nat.le_of_lt hC.lt))⟩
  · have hcase : sound c = false ∨ (sound c = true ∧ c.n < 0) := by
      by_cases h : sound c = true
      · exact .inr ⟨h, Int.not_le.1 fun h2 => hs ⟨h, h2⟩⟩
      · exact .inl (by simpa using h)
    clear hs
    rcases hcase with hs | ⟨hs, hn⟩
    · 
      have Hs := Lib.hid hs
      clear hs
      obtain ⟨d, a, e, dp, n, t⟩ := c
      simp only at hn1 hn2
      go_enter Try.func6, Try.ntmps6
      go_wp2_with fail
      refine (soundR ⟨d, a, e, dp, n, t⟩ _ Hc.out false Hs.out).mono ?_
      rintro _ w1 ⟨rfl, hb⟩
      have hA := (has_new _ _ _ _ _ _ _ _).below hb
      have HA := Lib.hid hA
      obtain ⟨lr, r0, r1, r2, r3, r4, r5, rf⟩ := hA
      go_wp2_with fail
      have hA := HA.out.drew
      go_region_held3 (fun w' => (w'.cell? ⟨w.heap.size, 0, none⟩ = some (.string d) ∧ w'.cell? ⟨w.heap.size, 1, none⟩ = some (.int .i64 a) ∧ w'.cell? ⟨w.heap.size, 2, none⟩ = some (.int .i64 e) ∧ w'.cell? ⟨w.heap.size, 3, none⟩ = some (.int .i64 dp) ∧ w'.cell? ⟨w.heap.size, 4, none⟩ = some (.int .i64 n) ∧ w'.cell? ⟨w.heap.size, 5, none⟩ = some (.int .i64 t))) (exact hA.cells)
        (first
          | (go_at_call 9; refine (soundP ⟨d, a, e, dp, n, t⟩ _ Hc.out false Hs.out).mono ?_; rintro _ w3 ⟨rfl, hb3⟩; have hA := hA.below hb3)
          | (go_at_call 10; refine (soundR ⟨d, a, e, dp, n, t⟩ _ Hc.out false Hs.out).mono ?_; rintro _ w4 ⟨rfl, hb4⟩; have hA := hA.below hb4)
          | (go_at_call 18; refine (awake_any _).mono ?_; rintro _ w5 ⟨rfl, hb5⟩; have hA := hA.below hb5))
      all_goals
        go_wp2_with fail
        go_ret
        exact ⟨rfl, bt (bt (bt (below1t hb).drew hb3) hb4) hb5⟩
    · 
      have Hs := Lib.hid hs
      clear hs
      obtain ⟨d, a, e, dp, n, t⟩ := c
      simp only at hn1 hn2
      simp only at hn
      have hdec : decide (n < 0) = true := by simp; omega
      go_enter Try.func6, Try.ntmps6
      go_wp2_with fail
      refine (soundR ⟨d, a, e, dp, n, t⟩ _ Hc.out true Hs.out).mono ?_
      rintro _ w1 ⟨rfl, hb⟩
      have hA := (has_new _ _ _ _ _ _ _ _).below hb
      have HA := Lib.hid hA
      obtain ⟨lr, r0, r1, r2, r3, r4, r5, rf⟩ := hA
      go_wp2_with fail
      have hA := HA.out.drew
      go_region_held3 (fun w' => (w'.cell? ⟨w.heap.size, 0, none⟩ = some (.string d) ∧ w'.cell? ⟨w.heap.size, 1, none⟩ = some (.int .i64 a) ∧ w'.cell? ⟨w.heap.size, 2, none⟩ = some (.int .i64 e) ∧ w'.cell? ⟨w.heap.size, 3, none⟩ = some (.int .i64 dp) ∧ w'.cell? ⟨w.heap.size, 4, none⟩ = some (.int .i64 n) ∧ w'.cell? ⟨w.heap.size, 5, none⟩ = some (.int .i64 t))) (exact hA.cells)
        (first
          | (go_at_call 9; refine (soundP ⟨d, a, e, dp, n, t⟩ _ Hc.out true Hs.out).mono ?_; rintro _ w3 ⟨rfl, hb3⟩; have hA := hA.below hb3)
          | (go_at_call 10; refine (soundR ⟨d, a, e, dp, n, t⟩ _ Hc.out true Hs.out).mono ?_; rintro _ w4 ⟨rfl, hb4⟩; have hA := hA.below hb4)
          | (go_at_call 18; refine (awake_any _).mono ?_; rintro _ w5 ⟨rfl, hb5⟩; have hA := hA.below hb5))
      all_goals
        go_wp2_with fail
        go_ret
        exact ⟨rfl, bt (bt (bt (below1t hb).drew hb3) hb4) hb5⟩

end Go.Proofs.Ytdgbbfhhjhhahaa.CursorStaysW
