import Derived.Test.YthjpchnogllliaaGreatDoorShelf
import Derived.Test.YthjpchnogllliaaGreatDoorNums
import Derived.Test.YthjpchnogllliaaGreatDoorIdnC
import Derived.Test.YthjpchnogllliaaGreatDoorTld
import Derived.Shelf.Strings.PiecesUse
import Derived.WalkKit
import Derived.ProofKit
import Derived.WalkSpells
import Derived.WalkLawsBesides
import Derived.Lib.Hide
import Derived.Lib.Walk
import Derived.WalkSmall
import Derived.LoopTactic
/- Package ident of the program: the class of a rune, parts, full names, keywords, joining and splitting. -/
set_option linter.unusedSimpArgs false
set_option linter.unusedVariables false
namespace Go.Proofs.YthjpchnogllliaaGreatDoor.IdpA
open Go.RowKit Nums IdnM IdnC Uld

theorem ret_bool {a b : Bool} (h : a = b) : Ending.returned (.bool a) = .returned (.bool b) := by rw [h]

set_option maxHeartbeats 1000000 in
set_option maxRecDepth 100000 in
theorem classOf_any (b : UInt8) (w : World) :
    Calls Tryz.prog 153 #[.int .i32 (b.toNat : Int)] w fun e w' => e = .returned (.int .i64 (cls b)) ∧ w = w' := by
  have hc : cls b = if 97 ≤ b.toNat ∧ b.toNat ≤ 122 then 1 else if 65 ≤ b.toNat ∧ b.toNat ≤ 90 then 2 else if 48 ≤ b.toNat ∧ b.toNat ≤ 57 then 3 else if b.toNat = 95 then 4 else 0 := by
    simp [cls, sm, cp, dg, us]
  obtain ⟨n, hn⟩ : ∃ n, n = b.toNat := ⟨_, rfl⟩
  rw [← hn] at hc ⊢
  have Hc := Lib.hid hc
  clear hc hn
  go_enter Tryz.func153, Tryz.ntmps153
  go_wp2_with fail
  all_goals go_ret
  all_goals
    refine ⟨?_, rfl⟩
    have hc := Hc.out
    clear Hc
    simp only [beq_iff_eq, decide_eq_true_eq, decide_eq_false_iff_not, Int.not_le, Bool.not_eq_true, beq_eq_false_iff_ne] at *
    repeat' split at hc
    all_goals first
      | omega
      | (rw [hc]; rfl)

theorem classOf_w (b : UInt8) (w : World) :
    Calls Tryz.prog 153 #[.int .i32 (wrap32 (b.toNat : Int))] w fun e w' => e = .returned (.int .i64 (cls b)) ∧ w = w' := by
  have h := b.toNat_lt
  have e : wrap32 (b.toNat : Int) = b.toNat := by unfold wrap32; omega
  rw [e]
  exact classOf_any b w
theorem ok_no {k : Nat} {b : UInt8} (h : okAt k b = false) : cls b = 0 ∨ (k = 0 ∧ (cls b = 3 ∨ cls b = 4)) := by
  have h4 := cls_le b
  by_cases h0 : cls b = 0
  · exact .inl h0
  · by_cases h12 : cls b = 1 ∨ cls b = 2
    · rw [ok_cls12 k h12] at h; cases h
    · have h34 : cls b = 3 ∨ cls b = 4 := by omega
      by_cases hk : k = 0
      · exact .inr ⟨hk, h34⟩
      · rw [(ok_cls34 h34).2 k hk] at h; cases h
theorem ok_yes {k : Nat} {b : UInt8} (h : okAt k b = true) : cls b ≠ 0 ∧ (k ≠ 0 ∨ (cls b ≠ 3 ∧ cls b ≠ 4)) := by
  refine ⟨fun e => ?_, ?_⟩
  · rw [ok_cls0 k e] at h; cases h
  · by_cases hk : k = 0
    · right
      subst hk
      refine ⟨fun e => ?_, fun e => ?_⟩
      · rw [(ok_cls34 (.inl e)).1] at h; cases h
      · rw [(ok_cls34 (.inr e)).1] at h; cases h
    · exact .inl hk

set_option maxHeartbeats 1000000 in
set_option maxRecDepth 100000 in
theorem isPart_any (s : ByteArray) (w : World) :
    Calls Tryz.prog 131 #[.string s] w fun e w' => e = .returned (.bool (nmp s.data.toList)) ∧ w = w' := by
  have hsl : s.data.toList.length = s.size := rfl
  obtain ⟨p, hp⟩ : ∃ p, p = nmp s.data.toList := ⟨_, rfl⟩
  rw [← hp]
  by_cases h0 : s.size = 0
  · have he : s.toList.isEmpty = true := empty_yes h0
    have hpf : p = false := by
      rw [hp]
      have : s.data.toList = [] := List.length_eq_zero_iff.1 (by omega)
      rw [this]; rfl
    clear hp
    subst hpf
    go_enter Tryz.func131, Tryz.ntmps131
    go_wp2_with fail
    go_ret
    exact ⟨rfl, rfl⟩
  · have he : s.toList.isEmpty = false := empty_no h0
    by_cases h40 : 40 < s.size
    · have hd : decide ((40 : Int) < s.size) = true := by simp; omega
      have hpf : p = false := by rw [hp]; exact nmp_long (by omega)
      clear hp
      subst hpf
      go_enter Tryz.func131, Tryz.ntmps131
      go_wp2_with fail
      go_ret
      exact ⟨rfl, rfl⟩
    · have hd : decide ((40 : Int) < s.size) = false := by simp; omega
      have Hp := Lib.hid hp
      clear hp
      go_enter Tryz.func131, Tryz.ntmps131
      go_wp2_with fail
      go_loop [14] (fun i => ∃ k : Nat, k ≤ s.size ∧ i = .int .i64 k ∧ Hid (∀ (j : Nat) (h : j < s.data.toList.length), j < k → okAt j s.data.toList[j] = true)) (fun i => s.size - (intOf i).toNat)
      case atStart => exact ⟨0, by omega, rfl, Lib.hid (fun j h hj => by omega)⟩
      case round =>
        obtain ⟨k, hk, rfl, Hk⟩ := hrel
        by_cases hlt : k < s.size
        · obtain ⟨C, hC⟩ : ∃ C : Int, C = cls s[k] := ⟨_, rfl⟩
          cases hok : okAt k s[k] with
          | false =>
            have hpf : p = false := by rw [Hp.out]; exact nmp_bad (k := k) hlt hok
            have h3 := ok_no hok
            clear Hp
            subst hpf
            rcases h3 with h3 | ⟨hk0, h3 | h3⟩
            · have t0 : (C == 0) = true := by rw [hC, h3]; rfl
              have HC := Lib.hid hC
              clear hC hok
              go_wp2_with fail
              refine (classOf_w s[k] _).mono ?_
              rintro _ w1 ⟨rfl, rfl⟩
              rw [← HC.out]
              go_wp2_with fail
              go_ret
              exact ⟨rfl, rfl⟩
            · have t0 : (C == 0) = false := by rw [hC, h3]; rfl
              have t1 : ((k : Int) == 0) = true := by rw [hk0]; rfl
              have t3 : (C == 3) = true := by rw [hC, h3]; rfl
              have HC := Lib.hid hC
              clear hC hok hk0
              go_wp2_with fail
              refine (classOf_w s[k] _).mono ?_
              rintro _ w1 ⟨rfl, rfl⟩
              rw [← HC.out]
              go_wp2_with fail
              go_ret
              exact ⟨rfl, rfl⟩
            · have t0 : (C == 0) = false := by rw [hC, h3]; rfl
              have t1 : ((k : Int) == 0) = true := by rw [hk0]; rfl
              have t3 : (C == 3) = false := by rw [hC, h3]; rfl
              have t4 : (C == 4) = true := by rw [hC, h3]; rfl
              have HC := Lib.hid hC
              clear hC hok hk0
              go_wp2_with fail
              refine (classOf_w s[k] _).mono ?_
              rintro _ w1 ⟨rfl, rfl⟩
              rw [← HC.out]
              go_wp2_with fail
              go_ret
              exact ⟨rfl, rfl⟩
          | true =>
            obtain ⟨h3, h4⟩ := ok_yes hok
            have hnext : ∀ (j : Nat) (h : j < s.data.toList.length), j < k + 1 → okAt j s.data.toList[j] = true := by
              intro j h hj
              rcases Nat.lt_or_ge j k with h5 | h5
              · exact Hk.out j h h5
              · obtain rfl : j = k := by omega
                exact hok
            have Hn := Lib.hid hnext
            have t0 : (C == 0) = false := by rw [beq_eq_false_iff_ne, hC]; omega
            rcases h4 with h4 | ⟨h4, h5⟩
            · have t1 : ((k : Int) == 0) = false := by rw [beq_eq_false_iff_ne]; omega
              have HC := Lib.hid hC
              clear hC hok hnext h3
              go_wp2_with fail
              refine (classOf_w s[k] _).mono ?_
              rintro _ w1 ⟨rfl, rfl⟩
              rw [← HC.out]
              go_wp2_with fail
              exact ⟨⟨k + 1, by omega, by go_num, Hn⟩, by simp [intOf]; omega⟩
            · have t3 : (C == 3) = false := by rw [beq_eq_false_iff_ne, hC]; omega
              have t4 : (C == 4) = false := by rw [beq_eq_false_iff_ne, hC]; omega
              have HC := Lib.hid hC
              clear hC hok hnext h3
              cases t1 : ((k : Int) == 0)
              · go_wp2_with fail
                refine (classOf_w s[k] _).mono ?_
                rintro _ w1 ⟨rfl, rfl⟩
                rw [← HC.out]
                go_wp2_with fail
                exact ⟨⟨k + 1, by omega, by go_num, Hn⟩, by simp [intOf]; omega⟩
              · go_wp2_with fail
                refine (classOf_w s[k] _).mono ?_
                rintro _ w1 ⟨rfl, rfl⟩
                rw [← HC.out]
                go_wp2_with fail
                exact ⟨⟨k + 1, by omega, by go_num, Hn⟩, by simp [intOf]; omega⟩
        · obtain rfl : k = s.size := by omega
          have hpt : p = true := by
            rw [Hp.out]
            exact nmp_iff.2 ⟨by omega, by omega, fun j h => Hk.out j h h⟩
          clear Hp
          subst hpt
          go_wp2_with fail
          go_ret
          exact ⟨rfl, rfl⟩

/-- The pieces of a string at a byte. -/
def Pcs (c : UInt8) (s : ByteArray) : List ByteArray := Lib.splitB ⟨#[c]⟩ 0 (Lib.countB s ⟨#[c]⟩) s
theorem Pcs_data (c : UInt8) (s : ByteArray) : (Pcs c s).map (·.data.toList) = pieces c s.data.toList := pieces_split c s
theorem Pcs_len (c : UInt8) (s : ByteArray) : (Pcs c s).length = Lib.countB s ⟨#[c]⟩ + 1 := Lib.splitB_all ⟨#[c]⟩ (Nat.le_refl 1) 0 _ s rfl
theorem split_any (c : UInt8) (s : ByteArray) (hs : s.size ≤ 4294967000) (w : World) (hL : Ld w) :
    Calls Tryz.prog 130 #[.string s, .string ⟨#[c]⟩] w fun e w' => ∃ g, e = .returned (.slice (some ⟨g, 0, none⟩) (Pcs c s).length (Pcs c s).length) ∧ w.heap.size ≤ g ∧ g < w'.heap.size ∧
      (∀ (j : Nat) x, (Pcs c s)[j]? = some x → w'.cell? ⟨g, j, none⟩ = some (.string x)) ∧ Below w.heap.size w w' ∧ w'.heap[g]? = some (.cells ((Pcs c s).map Value.string).toArray 9 (0, 0)) := by
  obtain ⟨m, hm⟩ := hL.mx
  refine (Tryz.strings_Split s ⟨#[c]⟩ m w (by omega) hm (Nat.le_refl 1)).mono ?_
  rintro e w' ⟨rfl, rfl⟩
  refine ⟨w.heap.size, by rw [Pcs_len], Nat.le_refl _, Lib.pieces_block w _, ?_, (Below.refl _ _).alloc (Nat.le_refl _) _, heap_alloc_new w _⟩
  intro j x h
  have := Lib.pieces_cell w (Pcs c s) 9 j x h
  rw [Nat.zero_add] at this
  exact this
theorem all_map (f : List UInt8 → Bool) (l : List ByteArray) : (l.map (·.data.toList)).all f = l.all fun x => f x.data.toList := by
  rw [List.all_map]; rfl

set_option maxHeartbeats 1000000 in
set_option maxRecDepth 100000 in
theorem isFull_any (s : ByteArray) (w : World) (hL : Ld w) :
    Calls Tryz.prog 106 #[.string s] w fun e w' => e = .returned (.bool (full s.data.toList)) ∧ Below w.heap.size w w' := by
  have hsl : s.data.toList.length = s.size := rfl
  obtain ⟨p, hp⟩ : ∃ p, p = full s.data.toList := ⟨_, rfl⟩
  rw [← hp]
  by_cases h120 : 120 < s.size
  · have hpf : p = false := by
      rw [hp]
      have : decide (s.data.toList.length ≤ 120) = false := by simp; omega
      unfold full
      rw [this]; rfl
    clear hp
    subst hpf
    go_enter Tryz.func106, Tryz.ntmps106
    go_wp2_with fail
    go_ret
    exact ⟨rfl, Below.refl _ _⟩
  · have hp2 : p = (Pcs 46 s).all fun x => nmp x.data.toList := by
      rw [hp, ← all_map nmp, Pcs_data]
      unfold full
      have : decide (s.data.toList.length ≤ 120) = true := by simp; omega
      rw [this]; rfl
    clear hp
    obtain ⟨P, hP⟩ : ∃ P, P = Pcs 46 s := ⟨_, rfl⟩
    have hPl : P.length ≤ 4294967281 := by
      rw [hP, Pcs_len]
      have := Lib.countB_le ⟨#[46]⟩ (Nat.le_refl 1) s.size s (Nat.le_refl _)
      omega
    rw [← hP] at hp2
    have Hp := Lib.hid hp2
    have HP := Lib.hid hP
    clear hp2 hP
    go_enter Tryz.func106, Tryz.ntmps106
    go_wp2_with fail
    refine (split_any 46 s (by omega) _ hL).mono ?_
    rintro _ w1 ⟨g, rfl, hg, hg2, hcell, hb, _⟩
    rw [← HP.out] at hcell ⊢
    have Hcell := Lib.hid hcell
    clear hcell
    go_wp2_with fail
    go_loop [11] (fun i => ∃ k : Nat, k ≤ P.length ∧ i = .int .i64 k ∧ Hid (∀ (j : Nat) x, P[j]? = some x → j < k → nmp x.data.toList = true)) (fun i => P.length - (intOf i).toNat)
    case atStart => exact ⟨0, by omega, rfl, Lib.hid (fun j x h hj => by omega)⟩
    case round =>
      obtain ⟨k, hk, rfl, Hk⟩ := hrel
      by_cases hlt : k < P.length
      · obtain ⟨x, hx⟩ : ∃ x, P[k]? = some x := ⟨_, List.getElem?_eq_getElem hlt⟩
        have hc := Hcell.out k x hx
        have Hx := Lib.hid hx
        clear hx
        cases hn : nmp x.data.toList with
        | false =>
          have hpf : p = false := by
            rw [Hp.out, List.all_eq_false]
            exact ⟨x, List.mem_of_getElem? Hx.out, by rw [hn]; simp⟩
          have Hn := Lib.hid hn
          clear Hp hn
          subst hpf
          go_wp2_with fail
          refine (isPart_any x _).mono ?_
          rintro _ w2 ⟨rfl, rfl⟩
          rw [Hn.out]
          go_wp2_with fail
          go_ret
          exact ⟨rfl, hb⟩
        | true =>
          have hnext : ∀ (j : Nat) y, P[j]? = some y → j < k + 1 → nmp y.data.toList = true := by
            intro j y h hj
            rcases Nat.lt_or_ge j k with h5 | h5
            · exact Hk.out j y h h5
            · obtain rfl : j = k := by omega
              rw [Hx.out] at h
              cases h
              exact hn
          have Hnx := Lib.hid hnext
          have Hn := Lib.hid hn
          clear hnext hn
          go_wp2_with fail
          refine (isPart_any x _).mono ?_
          rintro _ w2 ⟨rfl, rfl⟩
          rw [Hn.out]
          go_wp2_with fail
          exact ⟨⟨k + 1, by omega, by go_num, Hnx⟩, by simp [intOf]; omega⟩
      · obtain rfl : k = P.length := by omega
        have hpt : p = true := by
          rw [Hp.out, List.all_eq_true]
          intro x hx
          obtain ⟨j, hj⟩ := List.getElem?_of_mem hx
          exact Hk.out j x hj (List.getElem?_eq_some_iff.1 hj).1
        clear Hp
        subst hpt
        go_wp2_with fail
        go_ret
        exact ⟨rfl, hb⟩
end Go.Proofs.YthjpchnogllliaaGreatDoor.IdpA
