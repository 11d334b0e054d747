import Derived.Test.YtoinfjdhbopefaaDoorUtfS
import Derived.BigGuardPart
import Derived.Test.YtoinfjdhbopefaaDoorUtfH
import Derived.Test.YtoinfjdhbopefaaDoorUtfP
import Derived.Deep.QuietTactic
import Derived.BigQuiet
/- Contracts of between, tail and Size of the reference of package utf. -/
set_option linter.unusedSimpArgs false
set_option linter.unusedVariables false
namespace Go.Proofs.YtoinfjdhbopefaaDoor.UtfR
open Go.RowKit Nums Byt UtfM UtfS

theorem lget {s : ByteArray} {n : Nat} (h : n < s.size) : s.data.toList[n]? = some s[n] := by
  rw [List.getElem?_eq_getElem h]; rfl
theorem lget_no {s : ByteArray} {n : Nat} (h : ¬ n < s.size) : s.data.toList[n]? = none := by
  rw [List.getElem?_eq_none_iff]; show s.size ≤ n; omega

def tlB (l : List UInt8) (i : Nat) : Nat → Bool
  | 0 => true
  | n + 1 => tlB l i n && inR (l[i + n]?) 128 191
theorem tlB_false {l : List UInt8} {i k n : Nat} (h : tlB l i k = false) (hk : k ≤ n) : tlB l i n = false := by
  induction n with
  | zero => obtain rfl : k = 0 := by omega
            exact h
  | succ n ih =>
    by_cases e : k = n + 1
    · subst e; exact h
    · rw [tlB, ih (by omega)]; rfl

theorem tl1 (l : List UInt8) (i : Nat) : tlB l i 1 = inR (l[i]?) 128 191 := by simp [tlB]
theorem tl2 (l : List UInt8) (i : Nat) : tlB l i 2 = (inR (l[i]?) 128 191 && inR (l[i + 1]?) 128 191) := by simp [tlB]
theorem tl3 (l : List UInt8) (i : Nat) : tlB l i 3 = (inR (l[i]?) 128 191 && inR (l[i + 1]?) 128 191 && inR (l[i + 2]?) 128 191) := by simp [tlB]

theorem sz_A {l : List UInt8} {i : Nat} {a : UInt8} (h0 : l[i]? = some a) (hlo : 0 ≤ a.toNat) (hhi : a.toNat ≤ 127) : sz (l.drop i) = 1 := by
  rw [sz_drop]
  have g1 : (a.toNat < 128) = True := eq_true (by omega)
  have g2 : (194 ≤ a.toNat) = False := eq_false (by omega)
  have g3 : (a.toNat ≤ 223) = True := eq_true (by omega)
  have g4 : (a.toNat = 224) = False := eq_false (by omega)
  have g5 : (a.toNat = 237) = False := eq_false (by omega)
  have g6 : (225 ≤ a.toNat) = False := eq_false (by omega)
  have g7 : (a.toNat ≤ 239) = True := eq_true (by omega)
  have g8 : (a.toNat = 240) = False := eq_false (by omega)
  have g9 : (241 ≤ a.toNat) = False := eq_false (by omega)
  have g10 : (a.toNat ≤ 243) = True := eq_true (by omega)
  have g11 : (a.toNat = 244) = False := eq_false (by omega)
  simp [szF, h0, g1, g2, g3, g4, g5, g6, g7, g8, g9, g10, g11]
theorem sz_B {l : List UInt8} {i : Nat} {a : UInt8} (h0 : l[i]? = some a) (hlo : 128 ≤ a.toNat) (hhi : a.toNat ≤ 193) : sz (l.drop i) = 0 := by
  rw [sz_drop]
  have g1 : (a.toNat < 128) = False := eq_false (by omega)
  have g2 : (194 ≤ a.toNat) = False := eq_false (by omega)
  have g3 : (a.toNat ≤ 223) = True := eq_true (by omega)
  have g4 : (a.toNat = 224) = False := eq_false (by omega)
  have g5 : (a.toNat = 237) = False := eq_false (by omega)
  have g6 : (225 ≤ a.toNat) = False := eq_false (by omega)
  have g7 : (a.toNat ≤ 239) = True := eq_true (by omega)
  have g8 : (a.toNat = 240) = False := eq_false (by omega)
  have g9 : (241 ≤ a.toNat) = False := eq_false (by omega)
  have g10 : (a.toNat ≤ 243) = True := eq_true (by omega)
  have g11 : (a.toNat = 244) = False := eq_false (by omega)
  simp [szF, h0, g1, g2, g3, g4, g5, g6, g7, g8, g9, g10, g11]
theorem sz_C {l : List UInt8} {i : Nat} {a : UInt8} (h0 : l[i]? = some a) (hlo : 194 ≤ a.toNat) (hhi : a.toNat ≤ 223) : sz (l.drop i) = if (tlB l (i + 1) 1) = true then 2 else 0 := by
  rw [sz_drop]
  have g1 : (a.toNat < 128) = False := eq_false (by omega)
  have g2 : (194 ≤ a.toNat) = True := eq_true (by omega)
  have g3 : (a.toNat ≤ 223) = True := eq_true (by omega)
  have g4 : (a.toNat = 224) = False := eq_false (by omega)
  have g5 : (a.toNat = 237) = False := eq_false (by omega)
  have g6 : (225 ≤ a.toNat) = False := eq_false (by omega)
  have g7 : (a.toNat ≤ 239) = True := eq_true (by omega)
  have g8 : (a.toNat = 240) = False := eq_false (by omega)
  have g9 : (241 ≤ a.toNat) = False := eq_false (by omega)
  have g10 : (a.toNat ≤ 243) = True := eq_true (by omega)
  have g11 : (a.toNat = 244) = False := eq_false (by omega)
  simp only [tl1, tl2, tl3, Nat.add_assoc, Nat.reduceAdd]
  simp [szF, h0, g1, g2, g3, g4, g5, g6, g7, g8, g9, g10, g11]
theorem sz_D {l : List UInt8} {i : Nat} {a : UInt8} (h0 : l[i]? = some a) (hlo : 224 ≤ a.toNat) (hhi : a.toNat ≤ 224) : sz (l.drop i) = if (inR (l[i + 1]?) 160 191 && tlB l (i + 2) 1) = true then 3 else 0 := by
  rw [sz_drop]
  have g1 : (a.toNat < 128) = False := eq_false (by omega)
  have g2 : (194 ≤ a.toNat) = True := eq_true (by omega)
  have g3 : (a.toNat ≤ 223) = False := eq_false (by omega)
  have g5 : (a.toNat = 237) = False := eq_false (by omega)
  have g6 : (225 ≤ a.toNat) = False := eq_false (by omega)
  have g7 : (a.toNat ≤ 239) = True := eq_true (by omega)
  have g8 : (a.toNat = 240) = False := eq_false (by omega)
  have g9 : (241 ≤ a.toNat) = False := eq_false (by omega)
  have g10 : (a.toNat ≤ 243) = True := eq_true (by omega)
  have g11 : (a.toNat = 244) = False := eq_false (by omega)
  have ga : a.toNat = 224 := by omega
  simp only [tl1, tl2, tl3, Nat.add_assoc, Nat.reduceAdd]
  simp [szF, h0, ga]
theorem sz_E {l : List UInt8} {i : Nat} {a : UInt8} (h0 : l[i]? = some a) (hlo : 237 ≤ a.toNat) (hhi : a.toNat ≤ 237) : sz (l.drop i) = if (inR (l[i + 1]?) 128 159 && tlB l (i + 2) 1) = true then 3 else 0 := by
  rw [sz_drop]
  have g1 : (a.toNat < 128) = False := eq_false (by omega)
  have g2 : (194 ≤ a.toNat) = True := eq_true (by omega)
  have g3 : (a.toNat ≤ 223) = False := eq_false (by omega)
  have g4 : (a.toNat = 224) = False := eq_false (by omega)
  have g6 : (225 ≤ a.toNat) = True := eq_true (by omega)
  have g7 : (a.toNat ≤ 239) = True := eq_true (by omega)
  have g8 : (a.toNat = 240) = False := eq_false (by omega)
  have g9 : (241 ≤ a.toNat) = False := eq_false (by omega)
  have g10 : (a.toNat ≤ 243) = True := eq_true (by omega)
  have g11 : (a.toNat = 244) = False := eq_false (by omega)
  have ga : a.toNat = 237 := by omega
  simp only [tl1, tl2, tl3, Nat.add_assoc, Nat.reduceAdd]
  simp [szF, h0, ga]
theorem sz_F {l : List UInt8} {i : Nat} {a : UInt8} (h0 : l[i]? = some a) (hlo : 225 ≤ a.toNat) (hhi : a.toNat ≤ 239) (hne : a.toNat ≠ 237) : sz (l.drop i) = if (tlB l (i + 1) 2) = true then 3 else 0 := by
  rw [sz_drop]
  have g1 : (a.toNat < 128) = False := eq_false (by omega)
  have g2 : (194 ≤ a.toNat) = True := eq_true (by omega)
  have g3 : (a.toNat ≤ 223) = False := eq_false (by omega)
  have g4 : (a.toNat = 224) = False := eq_false (by omega)
  have g5 : (a.toNat = 237) = False := eq_false (by omega)
  have g6 : (225 ≤ a.toNat) = True := eq_true (by omega)
  have g7 : (a.toNat ≤ 239) = True := eq_true (by omega)
  have g8 : (a.toNat = 240) = False := eq_false (by omega)
  have g9 : (241 ≤ a.toNat) = False := eq_false (by omega)
  have g10 : (a.toNat ≤ 243) = True := eq_true (by omega)
  have g11 : (a.toNat = 244) = False := eq_false (by omega)
  simp only [tl1, tl2, tl3, Nat.add_assoc, Nat.reduceAdd]
  simp [szF, h0, g1, g2, g3, g4, g5, g6, g7, g8, g9, g10, g11]
theorem sz_G {l : List UInt8} {i : Nat} {a : UInt8} (h0 : l[i]? = some a) (hlo : 240 ≤ a.toNat) (hhi : a.toNat ≤ 240) : sz (l.drop i) = if (inR (l[i + 1]?) 144 191 && tlB l (i + 2) 2) = true then 4 else 0 := by
  rw [sz_drop]
  have g1 : (a.toNat < 128) = False := eq_false (by omega)
  have g2 : (194 ≤ a.toNat) = True := eq_true (by omega)
  have g3 : (a.toNat ≤ 223) = False := eq_false (by omega)
  have g4 : (a.toNat = 224) = False := eq_false (by omega)
  have g5 : (a.toNat = 237) = False := eq_false (by omega)
  have g6 : (225 ≤ a.toNat) = True := eq_true (by omega)
  have g7 : (a.toNat ≤ 239) = False := eq_false (by omega)
  have g9 : (241 ≤ a.toNat) = False := eq_false (by omega)
  have g10 : (a.toNat ≤ 243) = True := eq_true (by omega)
  have g11 : (a.toNat = 244) = False := eq_false (by omega)
  have ga : a.toNat = 240 := by omega
  simp only [tl1, tl2, tl3, Nat.add_assoc, Nat.reduceAdd]
  simp [szF, h0, ga]
theorem sz_H {l : List UInt8} {i : Nat} {a : UInt8} (h0 : l[i]? = some a) (hlo : 241 ≤ a.toNat) (hhi : a.toNat ≤ 243) : sz (l.drop i) = if (tlB l (i + 1) 3) = true then 4 else 0 := by
  rw [sz_drop]
  have g1 : (a.toNat < 128) = False := eq_false (by omega)
  have g2 : (194 ≤ a.toNat) = True := eq_true (by omega)
  have g3 : (a.toNat ≤ 223) = False := eq_false (by omega)
  have g4 : (a.toNat = 224) = False := eq_false (by omega)
  have g5 : (a.toNat = 237) = False := eq_false (by omega)
  have g6 : (225 ≤ a.toNat) = True := eq_true (by omega)
  have g7 : (a.toNat ≤ 239) = False := eq_false (by omega)
  have g8 : (a.toNat = 240) = False := eq_false (by omega)
  have g9 : (241 ≤ a.toNat) = True := eq_true (by omega)
  have g10 : (a.toNat ≤ 243) = True := eq_true (by omega)
  have g11 : (a.toNat = 244) = False := eq_false (by omega)
  simp only [tl1, tl2, tl3, Nat.add_assoc, Nat.reduceAdd]
  simp [szF, h0, g1, g2, g3, g4, g5, g6, g7, g8, g9, g10, g11]
theorem sz_I {l : List UInt8} {i : Nat} {a : UInt8} (h0 : l[i]? = some a) (hlo : 244 ≤ a.toNat) (hhi : a.toNat ≤ 244) : sz (l.drop i) = if (inR (l[i + 1]?) 128 143 && tlB l (i + 2) 2) = true then 4 else 0 := by
  rw [sz_drop]
  have g1 : (a.toNat < 128) = False := eq_false (by omega)
  have g2 : (194 ≤ a.toNat) = True := eq_true (by omega)
  have g3 : (a.toNat ≤ 223) = False := eq_false (by omega)
  have g4 : (a.toNat = 224) = False := eq_false (by omega)
  have g5 : (a.toNat = 237) = False := eq_false (by omega)
  have g6 : (225 ≤ a.toNat) = True := eq_true (by omega)
  have g7 : (a.toNat ≤ 239) = False := eq_false (by omega)
  have g8 : (a.toNat = 240) = False := eq_false (by omega)
  have g9 : (241 ≤ a.toNat) = True := eq_true (by omega)
  have g10 : (a.toNat ≤ 243) = False := eq_false (by omega)
  have ga : a.toNat = 244 := by omega
  simp only [tl1, tl2, tl3, Nat.add_assoc, Nat.reduceAdd]
  simp [szF, h0, ga]
theorem sz_J {l : List UInt8} {i : Nat} {a : UInt8} (h0 : l[i]? = some a) (hlo : 245 ≤ a.toNat) (hhi : a.toNat ≤ 255) : sz (l.drop i) = 0 := by
  rw [sz_drop]
  have g1 : (a.toNat < 128) = False := eq_false (by omega)
  have g2 : (194 ≤ a.toNat) = True := eq_true (by omega)
  have g3 : (a.toNat ≤ 223) = False := eq_false (by omega)
  have g4 : (a.toNat = 224) = False := eq_false (by omega)
  have g5 : (a.toNat = 237) = False := eq_false (by omega)
  have g6 : (225 ≤ a.toNat) = True := eq_true (by omega)
  have g7 : (a.toNat ≤ 239) = False := eq_false (by omega)
  have g8 : (a.toNat = 240) = False := eq_false (by omega)
  have g9 : (241 ≤ a.toNat) = True := eq_true (by omega)
  have g10 : (a.toNat ≤ 243) = False := eq_false (by omega)
  have g11 : (a.toNat = 244) = False := eq_false (by omega)
  simp [szF, h0, g1, g2, g3, g4, g5, g6, g7, g8, g9, g10, g11]
end Go.Proofs.YtoinfjdhbopefaaDoor.UtfR

/- Contracts of pair, digit, Hex, Unhex and Quote of the reference of package utf. -/
set_option linter.unusedSimpArgs false
set_option linter.unusedVariables false
namespace Go.Proofs.YtoinfjdhbopefaaDoor.UtfK
open Go.RowKit Nums Byt UtfM UtfS UtfQ UtfD Room UtfH UtfP UtfR

theorem digit_cut {n : Nat} (h : n < 16) : (⟨#[48, 49, 50, 51, 52, 53, 54, 55, 56, 57, 97, 98, 99, 100, 101, 102]⟩ : ByteArray).extract n (n + 1) = ⟨#[hx n]⟩ := by
  have : ∀ k : Fin 16, ((⟨#[48, 49, 50, 51, 52, 53, 54, 55, 56, 57, 97, 98, 99, 100, 101, 102]⟩ : ByteArray).extract k.val (k.val + 1)).data.toList = [hx k.val] := by decide +kernel
  have h1 := this ⟨n, h⟩
  rw [← mk_toList (ByteArray.extract _ n (n + 1)), h1]
theorem join_list (a : ByteArray) (l : List UInt8) (x : List UInt8) (h : a.data.toList = x) : (a ++ ⟨l.toArray⟩).data.toList = x ++ l := by
  rw [append_toList, h]
theorem unhex_odd : ∀ l : List UInt8, l.length % 2 ≠ 0 → unhexL l = none
  | [], h => by simp at h
  | [_], _ => rfl
  | a :: b :: t, h => by
    rw [unhexL]
    split
    · rfl
    · rw [unhex_odd t (by simp only [List.length_cons] at h; omega)]; rfl
theorem wrap8 {a b : Int} (a0 : 0 ≤ a) (a1 : a < 16) (b0 : 0 ≤ b) (b1 : b < 16) : (16 * a + b) % 256 = ((UInt8.ofNat (a.toNat * 16 + b.toNat)).toNat : Int) := by
  rw [UInt8.toNat_ofNat']
  omega

theorem conv_new (W : World) (c : UInt8) : (convert 37 9 (.slice (some ⟨W.heap.size, 0, none⟩) 1 1)).run Tryd.prog (W.alloc (.cells #[.int .u8 (c.toNat : Int)] 5)) = .ok (.string ⟨#[c]⟩) (W.alloc (.cells #[.int .u8 (c.toNat : Int)] 5)) :=
  conv_cells BytT.bytesT Tryd.underlying9 W.heap.size 1 1 [c] rfl (fun i hi => by
    obtain rfl : i = 0 := by simp at hi; omega
    rw [World.cell?_alloc_at _ _ _ _ rfl]; rfl)
theorem conv_drew (W : World) (c : UInt8) : (convert 37 9 (.slice (some ⟨W.heap.size, 0, none⟩) 1 1)).run Tryd.prog (W.alloc (.cells #[.int .u8 (c.toNat : Int)] 5)).drew = .ok (.string ⟨#[c]⟩) (W.alloc (.cells #[.int .u8 (c.toNat : Int)] 5)).drew :=
  conv_new W.drew c
theorem part_ref (s : ByteArray) (pos : Nat) (hp : pos < s.size) : ∃ (n m : Nat) (t : List UInt8),
    sz (s.data.toList.drop pos) = m ∧ (m = 0 → n = 1) ∧ (m ≠ 0 → n = m) ∧ 1 ≤ n ∧ n ≤ 4 ∧ pos + n ≤ s.size ∧ body (s.data.toList.drop pos) = form (s[pos] :: t) ++ body (s.data.toList.drop (pos + n)) ∧ (s[pos] :: t).length = n ∧
    (s[pos].toNat < 128 → m = 1 ∧ t = []) ∧ sz (s[pos] :: t) = m ∧ (s.extract pos (pos + n)).data.toList = s[pos] :: t := by
  have hl : pos < s.data.toList.length := hp
  have hne := drop_ne hl
  have h1 := step_pos (s.data.toList.drop pos)
  have h4 := step_le4 (s.data.toList.drop pos)
  have hle := step_le hne
  rw [List.length_drop] at hle
  have hb := body_next hl
  have hsp := sz_part hne
  have hd : s.data.toList.drop pos = s[pos] :: s.data.toList.drop (pos + 1) := by rw [List.drop_eq_getElem_cons hl]; rfl
  obtain ⟨t, ht⟩ : ∃ t, (s.data.toList.drop pos).take (stp (s.data.toList.drop pos)) = s[pos] :: t := by
    obtain ⟨m, hm⟩ : ∃ m, stp (s.data.toList.drop pos) = m + 1 := ⟨stp (s.data.toList.drop pos) - 1, by omega⟩
    rw [hm, hd]
    exact ⟨_, rfl⟩
  have hlen := congrArg List.length ht
  rw [List.length_take, List.length_drop] at hlen
  have hsz : s.data.toList.length = s.size := rfl
  have hlow : s[pos].toNat < 128 → sz (s.data.toList.drop pos) = 1 := by
    intro h
    exact szF_mk1 (a := s[pos]) (by rw [hd]; rfl) h
  rw [ht] at hb hsp
  refine ⟨stp (s.data.toList.drop pos), _, t, rfl, fun h => ?_, fun h => ?_, h1, h4, by omega, hb, by omega, fun h => ⟨hlow h, ?_⟩, hsp, ?_⟩
  · unfold stp; rw [if_pos h]
  · unfold stp; rw [if_neg h]
  · have h2 := hlow h
    have h3 : stp (s.data.toList.drop pos) = 1 := by unfold stp; rw [h2]; rfl
    have : t.length = 0 := by simp only [List.length_cons] at hlen; omega
    exact List.eq_nil_of_length_eq_zero this
  · rw [← ht]
    simp [List.take_drop]
theorem beq_no {b c : UInt8} (h : b ≠ c) : ((b.toNat : Int) == (c.toNat : Int)) = false := by
  rw [beq_eq_false_iff_ne]
  intro e
  exact h (UInt8.toNat_inj.1 (by omega))
theorem ret_str {a b : ByteArray} (h : a = b) : Ending.returned (.string a) = .returned (.string b) := by rw [h]

end Go.Proofs.YtoinfjdhbopefaaDoor.UtfK

/- Contracts of escaped, unescape and Unquote of package utf. -/
set_option linter.unusedSimpArgs false
set_option linter.unusedVariables false
namespace Go.Proofs.YtoinfjdhbopefaaDoor.UtfE
open Go.RowKit Nums Byt UtfM UtfS UtfQ Room UtfH UtfP

theorem indexLetters (b : UInt8) (w : World) : Calls Tryd.prog 34 #[.string ⟨#[34, 92, 110, 116, 114]⟩, .int .u8 b.toNat] w fun e w' => e = .returned (.int .i64 (leI b)) ∧ w = w' :=
  (indexByte ⟨#[34, 92, 110, 116, 114]⟩ b _ rfl w).mono fun _ _ ⟨h1, h2⟩ => ⟨h1.trans (by rw [← index_letters]), h2⟩

theorem leI_cases (b : UInt8) (t : List UInt8) : (leI b = -1 ∧ b ≠ 34 ∧ b ≠ 92 ∧ b ≠ 110 ∧ b ≠ 116 ∧ b ≠ 114) ∨ ∃ (k : Nat) (c : UInt8), leI b = k ∧ k < 5 ∧ esc (b :: t) = (c, 1) ∧ (∀ h, (⟨#[34, 92, 10, 9, 13]⟩ : ByteArray)[k]'h = c) := by
  by_cases h1 : b = 34
  · subst h1; exact .inr ⟨0, 34, rfl, by omega, rfl, fun _ => rfl⟩
  by_cases h2 : b = 92
  · subst h2; exact .inr ⟨1, 92, rfl, by omega, rfl, fun _ => rfl⟩
  by_cases h3 : b = 110
  · subst h3; exact .inr ⟨2, 10, rfl, by omega, rfl, fun _ => rfl⟩
  by_cases h4 : b = 116
  · subst h4; exact .inr ⟨3, 9, rfl, by omega, rfl, fun _ => rfl⟩
  by_cases h5 : b = 114
  · subst h5; exact .inr ⟨4, 13, rfl, by omega, rfl, fun _ => rfl⟩
  exact .inl ⟨by simp [leI, h1, h2, h3, h4, h5], h1, h2, h3, h4, h5⟩
theorem esc_len (t : List UInt8) : (esc t).2 ≤ t.length ∧ (esc t).2 ≤ 3 := by
  cases t with
  | nil => simp [esc]
  | cons b t =>
    unfold esc
    simp only [List.length_cons]
    by_cases h1 : b = 34
    · rw [if_pos h1]; simp
    by_cases h2 : b = 92
    · rw [if_neg h1, if_pos h2]; simp
    by_cases h3 : b = 110
    · rw [if_neg h1, if_neg h2, if_pos h3]; simp
    by_cases h4 : b = 116
    · rw [if_neg h1, if_neg h2, if_neg h3, if_pos h4]; simp
    by_cases h5 : b = 114
    · rw [if_neg h1, if_neg h2, if_neg h3, if_neg h4, if_pos h5]; simp
    rw [if_neg h1, if_neg h2, if_neg h3, if_neg h4, if_neg h5]
    split
    · simp
    · cases h : two t with
      | none => simp
      | some c =>
        have : 2 ≤ t.length := Nat.le_of_not_lt fun hh => by rw [two_short hh] at h; cases h
        simp; omega
theorem ret_ui {a b c d : Int} (h : a = b) (k : c = d) : Ending.returned (.tuple #[.int .u8 a, .int .i64 c]) = .returned (.tuple #[.int .u8 b, .int .i64 d]) := by rw [h, k]
theorem byte_ne {b c : UInt8} (h : b ≠ c) : b.toNat ≠ c.toNat := fun e => h (UInt8.toNat_inj.1 e)

set_option maxHeartbeats 1000000 in
set_option maxRecDepth 100000 in
theorem escaped_any (s : ByteArray) (hs : s.size ≤ 4611686018427387904) (w : World) :
    Calls Tryd.prog 80 #[.string s] w fun e w' => e = .returned (.tuple #[.int .u8 (esc s.data.toList).1.toNat, .int .i64 (esc s.data.toList).2]) ∧ w = w' := by
  obtain ⟨l, hl⟩ : ∃ l, l = s.data.toList := ⟨_, rfl⟩
  rw [← hl]
  have hsi : (s.size : Int) ≤ 4611686018427387904 := by omega
  by_cases ht : s.size = 0
  · have he := empty_yes ht
    have htl : l = [] := by rw [hl]; exact List.eq_nil_of_length_eq_zero ht
    subst htl
    clear ht hl
    go_enter Tryd.func80, Tryd.ntmps80
    go_wp2_with fail
    go_ret2
    exact ⟨ret_ui rfl rfl, rfl⟩
  · have he := empty_no ht
    have h0 : 0 < s.size := by omega
    have hd : l = s[0] :: l.drop 1 := by
      have := List.drop_eq_getElem_cons (l := s.data.toList) (i := 0) h0
      rw [List.drop_zero] at this
      rw [hl]
      exact this
    obtain ⟨t, ht'⟩ : ∃ t, t = l.drop 1 := ⟨_, rfl⟩
    rw [← ht'] at hd
    have hts : (s.extract 1 s.size).data.toList = t := by rw [drop_data, ht', hl]
    have Hts := Lib.hid hts
    clear hl hts ht'
    subst hd
    clear ht
    rcases leI_cases s[0] t with ⟨hmk, h1, h2, h3, h4, h5⟩ | ⟨k, c, hmk, hk5, hform, hq⟩
    · have Hmk := Lib.hid hmk
      by_cases hx : s[0] = 120
      · have hx' := congrArg UInt8.toNat hx
        have n120 : ((s[0].toNat : Int) != 120) = false := by rw [bne_eq_false_iff_eq, hx']; rfl
        have hesc : esc (s[0] :: t) = match two t with
            | none => (0, 0)
            | some c => (c, 3) := by
          unfold esc
          simp only [if_neg h1, if_neg h2, if_neg h3, if_neg h4, if_neg h5, if_neg (show ¬ s[0] ≠ 120 from fun e => e hx)]
          cases two t <;> rfl
        cases h2t : two t with
        | none =>
          rw [h2t] at hesc
          have Hesc := Lib.hid hesc
          have H2 := Lib.hid h2t
          clear hx hx' hesc h2t hmk h1 h2 h3 h4 h5
          go_enter Tryd.func80, Tryd.ntmps80
          go_wp2_with fail
          refine (indexLetters _ _).mono ?_
          rintro _ w2 ⟨rfl, rfl⟩
          rw [Hmk.out]
          go_wp2_with fail
          refine (two_no _ (by rw [Hts.out]; exact H2.out) (by rw [ByteArray.size_extract]; omega) _).mono ?_
          rintro _ w1 ⟨rfl, rfl⟩
          go_wp2_with fail
          go_ret2
          exact ⟨ret_ui (by rw [Hesc.out]; rfl) (by rw [Hesc.out]; rfl), rfl⟩
        | some c =>
          rw [h2t] at hesc
          have Hesc := Lib.hid hesc
          have H2 := Lib.hid h2t
          clear hx hx' hesc h2t hmk h1 h2 h3 h4 h5
          go_enter Tryd.func80, Tryd.ntmps80
          go_wp2_with fail
          refine (indexLetters _ _).mono ?_
          rintro _ w2 ⟨rfl, rfl⟩
          rw [Hmk.out]
          go_wp2_with fail
          refine (two_yes _ c (by rw [Hts.out]; exact H2.out) (by rw [ByteArray.size_extract]; omega) _).mono ?_
          rintro _ w1 ⟨rfl, rfl⟩
          go_wp2_with fail
          go_ret2
          exact ⟨ret_ui (by rw [Hesc.out]) (by rw [Hesc.out]; rfl), rfl⟩
      · have hx' := byte_ne hx
        have n120 : ((s[0].toNat : Int) != 120) = true := by
          rw [bne_iff_ne]
          have : (120 : UInt8).toNat = 120 := rfl
          omega
        have hesc : esc (s[0] :: t) = (0, 0) := by
          unfold esc
          simp only [if_neg h1, if_neg h2, if_neg h3, if_neg h4, if_neg h5, if_pos (show s[0] ≠ 120 from hx)]
        have Hesc := Lib.hid hesc
        clear hx hx' hesc hmk h1 h2 h3 h4 h5
        go_enter Tryd.func80, Tryd.ntmps80
        go_wp2_with fail
        refine (indexLetters _ _).mono ?_
        rintro _ w2 ⟨rfl, rfl⟩
        rw [Hmk.out]
        go_wp2_with fail
        go_ret2
        exact ⟨ret_ui (by rw [Hesc.out]; rfl) (by rw [Hesc.out]; rfl), rfl⟩
    · have Hmk := Lib.hid hmk
      have Hform := Lib.hid hform
      have hk0 : (0 : Int) ≤ k := by omega
      have hk5' : (k : Int) < 5 := by omega
      clear hmk hform
      go_enter Tryd.func80, Tryd.ntmps80
      go_wp2_with fail
      refine (indexLetters _ _).mono ?_
      rintro _ w2 ⟨rfl, rfl⟩
      rw [Hmk.out]
      go_wp2_with fail
      go_ret2
      exact ⟨ret_ui (by rw [Hform.out]) (by rw [Hform.out]; rfl), rfl⟩

theorem unescape_step (l : List UInt8) : ∀ b t, l = b :: t → b = 34 → unescape l = match scan t with
    | none => ([], 0)
    | some r => (r.1, 1 + r.2) := by
  rintro b t rfl rfl
  rfl
/-- What is left to be read, and what has been read, as a result. -/
def after (acc : List UInt8) (k : Nat) (o : Option (List UInt8 × Nat)) : List UInt8 × Nat := match o with
  | none => ([], 0)
  | some r => (acc ++ r.1, k + r.2)
theorem after_map (acc : List UInt8) (k j : Nat) (c : UInt8) (o : Option (List UInt8 × Nat)) : after acc k (o.map fun r => (c :: r.1, j + r.2)) = after (acc ++ [c]) (k + j) o := by
  cases o with
  | none => rfl
  | some r => simp [after]; omega
theorem ret_si {a b : ByteArray} {c d : Int} (h : a = b) (k : c = d) : Ending.returned (.tuple #[.string a, .int .i64 c]) = .returned (.tuple #[.string b, .int .i64 d]) := by rw [h, k]

set_option maxHeartbeats 2000000 in
set_option maxRecDepth 100000 in
theorem unescape_any (s : ByteArray) (hs : s.size ≤ 140737488355000) (w : World) :
    Calls Tryd.prog 63 #[.string s] w fun e w' => e = .returned (.tuple #[.string ⟨(unescape s.data.toList).1.toArray⟩, .int .i64 (unescape s.data.toList).2]) ∧ Below w.heap.size w w' := by
  obtain ⟨l, hl⟩ : ∃ l, l = s.data.toList := ⟨_, rfl⟩
  rw [← hl]
  have hsz : l.length = s.size := by rw [hl]; rfl
  have hsi : (s.size : Int) ≤ 140737488355000 := by omega
  have Hl := Lib.hid hl
  have Hsz := Lib.hid hsz
  clear hl hsz
  by_cases hp : Lib.hasPrefix l [34] = true
  · obtain ⟨t, ht⟩ := List.isPrefixOf_iff_prefix.1 hp
    have hun := unescape_step l 34 t (by rw [← ht]; rfl) rfl
    have hdr : l.drop 1 = t := by rw [← ht]; rfl
    have h1s : 1 ≤ s.size := by rw [← Hsz.out, ← ht]; simp
    have hun' : unescape l = after [] 1 (scan (l.drop 1)) := by rw [hun, hdr]; cases scan t <;> rfl
    have Hun := Lib.hid hun'
    have Hp := Lib.hid hp
    clear hun hdr hun' hp ht
    go_enter Tryd.func63, Tryd.ntmps63
    go_wp2_with fail
    refine (hasPrefix _ _ _).mono ?_
    rintro _ w1 ⟨rfl, rfl⟩
    rw [← Hl.out, show (⟨#[34]⟩ : ByteArray).data.toList = [34] from rfl, Hp.out]
    go_wp2_with fail
    go_loopw [4, 5] (fun v i wr => ∃ (k : Nat) (acc : List UInt8), k ≤ s.size ∧ acc.length ≤ k ∧ i = .int .i64 k ∧ OwnB wr w.heap.size 5 v acc ∧ Below w.heap.size w wr ∧ Hid (unescape l = after acc k (scan (l.drop k)))) (fun _ i _ => s.size - (intOf i).toNat)
    case atStart => exact ⟨1, [], h1s, by simp, rfl, OwnB.nil _ _ _, Below.refl _ _, Hun⟩
    case round =>
      obtain ⟨k, acc, hk, hacc, rfl, hown, hbel, Hu⟩ := hrel
      have hsw := hbel.size
      have Hown := Lib.hid hown
      clear hown Hun
      by_cases hlt : k < s.size
      · have hlt' : k < l.length := by rw [Hsz.out]; exact hlt
        have hd : l.drop k = s[k] :: l.drop (k + 1) := by
          rw [List.drop_eq_getElem_cons hlt']
          congr 1
          simp only [Hl.out]; rfl
        have Hd := Lib.hid hd
        have hx : (s.extract (k + 1) s.size).data.toList = l.drop (k + 1) := by rw [drop_data, Hl.out]
        have Hx := Lib.hid hx
        have hki : (k : Int) + 1 ≤ s.size := by omega
        clear hd hx hlt'
        by_cases c1 : s[k] = 34
        · have c1' : ((s[k].toNat : Int) == 34) = true := by rw [c1]; rfl
          have hcv := Hown.out.conv BytT.bytesT Tryd.underlying9
          have C1 := Lib.hid c1
          clear c1
          go_wp2_with fail
          go_ret2
          have hf : unescape l = (acc, k + 1) := by rw [Hu.out, Hd.out, C1.out, scan_mark]; simp [after]
          exact ⟨ret_si (by rw [hf]) (by rw [hf]; go_num), hbel⟩
        · have c1n := byte_ne c1
          have e34 : (34 : UInt8).toNat = 34 := rfl
          have c1' : ((s[k].toNat : Int) == 34) = false := by rw [beq_eq_false_iff_ne]; omega
          by_cases c2 : s[k] = 92
          · have c2' : ((s[k].toNat : Int) == 92) = true := by rw [c2]; rfl
            have C2 := Lib.hid c2
            clear c2 c1n e34
            have hes : (s.extract (k + 1) s.size).size ≤ 4611686018427387904 := by rw [ByteArray.size_extract]; omega
            have hel : (s.extract (k + 1) s.size).size = s.size - (k + 1) := by rw [ByteArray.size_extract]; omega
            have Hel := Lib.hid hel
            generalize hesc : esc (l.drop (k + 1)) = ec
            obtain ⟨ec1, ec2⟩ := ec
            have Hesc := Lib.hid hesc
            clear hesc hel
            by_cases hn : ec2 = 0
            · have n0 : ((ec2 : Int) == 0) = true := by simp [hn]
              have Hn := Lib.hid hn
              clear hn
              go_wp2_with fail
              refine (escaped_any _ hes _).mono ?_
              rintro _ w2 ⟨rfl, rfl⟩
              rw [Hx.out, Hesc.out]
              go_wp2_with fail
              go_ret2
              have hf : unescape l = ([], 0) := by rw [Hu.out, Hd.out, C2.out, scan_esc, Hesc.out, if_pos Hn.out]; rfl
              exact ⟨ret_si (by rw [hf]) (by rw [hf]; rfl), hbel⟩
            · have n0 : ((ec2 : Int) == 0) = false := by rw [beq_eq_false_iff_ne]; omega
              have he3 : ec2 ≤ 3 ∧ k + 1 + ec2 ≤ s.size := by
                have hh := esc_len (l.drop (k + 1))
                rw [Hesc.out, List.length_drop, Hsz.out] at hh
                simp only at hh
                omega
              obtain ⟨he3, hek⟩ := he3
              go_wp2_with fail
              refine (escaped_any _ hes _).mono ?_
              rintro _ w2 ⟨rfl, rfl⟩
              rw [Hx.out, Hesc.out]
              go_wp2_with (at_builtin; refine wpList_append_bytes rfl (.tmp 44) (.tmp 46) BytT.bytesT rfl w.heap.size _ acc rfl (Hown.out.alloc _) ⟨wr.heap.size, 0, none⟩ 1 1 [ec1] rfl rfl ?_ ?c1 ?c2 ?c3; intro v' w1 hown1 hg1 _; have Hown1 := Lib.hid hown1; have Hg1 := Lib.hid hg1; clear hown1 hg1)
              case c1 => exact cell_one _ _ _ _ rfl
              case c2 => exact .low (by omega)
              case c3 => exact size_alloc hsw
              refine ⟨⟨k + (1 + ec2), acc ++ [ec1], by omega, by simp; omega, by go_num, Hown1.out, (Hown.out.alloc _).below (hbel.alloc hsw _) Hg1.out (size_alloc hsw), Lib.hid ?_⟩, by simp [intOf]; omega⟩
              rw [Hu.out, Hd.out, C2.out, scan_esc, Hesc.out, if_neg hn, List.drop_drop, after_map]
              congr 3
              omega
          · have c2n := byte_ne c2
            have e92 : (92 : UInt8).toNat = 92 := rfl
            have c2' : ((s[k].toNat : Int) == 92) = false := by rw [beq_eq_false_iff_ne]; omega
            have hsc := scan_plain (l.drop (k + 1)) c1 c2
            have Hsc := Lib.hid hsc
            clear c1 c2 c1n c2n e34 e92 hsc
            go_wp2_with (at_builtin; refine wpList_append_bytes rfl (.tmp 18) (.tmp 22) BytT.bytesT rfl w.heap.size _ acc rfl (Hown.out.alloc _) ⟨wr.heap.size, 0, none⟩ 1 1 [s[k]] rfl rfl ?_ ?c4 ?c5 ?c6; intro v' w1 hown1 hg1 _; have Hown1 := Lib.hid hown1; have Hg1 := Lib.hid hg1; clear hown1 hg1)
            case c4 => exact cell_one _ _ _ _ rfl
            case c5 => exact .low (by omega)
            case c6 => exact size_alloc hsw
            refine ⟨⟨k + 1, acc ++ [s[k]], by omega, by simp; omega, by go_num, Hown1.out, (Hown.out.alloc _).below (hbel.alloc hsw _) Hg1.out (size_alloc hsw), Lib.hid ?_⟩, by simp [intOf]; omega⟩
            rw [Hu.out, Hd.out, Hsc.out, after_map]
      · obtain rfl : k = s.size := by omega
        go_wp2_with fail
        go_ret2
        have hf : unescape l = ([], 0) := by rw [Hu.out, List.drop_eq_nil_of_le (by rw [Hsz.out]; omega), scan_nil]; rfl
        exact ⟨ret_si (by rw [hf]) (by rw [hf]; rfl), hbel⟩
  · have hf : unescape l = ([], 0) := by
      cases l with
      | nil => rfl
      | cons b t =>
        have hb : b ≠ 34 := fun e => hp (by subst e; simp [Lib.hasPrefix])
        simp [unescape, hb]
    have Hf := Lib.hid hf
    have Hp : Hid (Lib.hasPrefix l [34] = false) := Lib.hid (by simpa using hp)
    clear hf hp
    go_enter Tryd.func63, Tryd.ntmps63
    go_wp2_with fail
    refine (hasPrefix _ _ _).mono ?_
    rintro _ w1 ⟨rfl, rfl⟩
    rw [← Hl.out, show (⟨#[34]⟩ : ByteArray).data.toList = [34] from rfl, Hp.out]
    go_wp2_with fail
    go_ret2
    exact ⟨ret_si (by rw [Hf.out]) (by rw [Hf.out]; rfl), Below.refl _ _⟩

theorem ret_sie {a b : ByteArray} {c d x y : Int} (h : a = b) (k : c = d) (m : x = y) : Ending.returned (.tuple #[.string a, .int .i64 c, .int .i64 x]) = .returned (.tuple #[.string b, .int .i64 d, .int .i64 y]) := by rw [h, k, m]
theorem cut_toList (s : ByteArray) (n : Nat) : (s.extract 0 n).toList = s.data.toList.take n := by
  rw [ByteArray.toList_eq]
  simp
theorem drew_below {B : Nat} {w w' : World} (h : Below w.drew.heap.size w.drew w') (hB : B ≤ w.heap.size) : Below B w w' :=
  ((Below.refl B w).drew).trans (h.mono hB)
set_option maxHeartbeats 2000000 in
set_option maxRecDepth 100000 in
theorem unquote_any (s : ByteArray) (hs : s.size ≤ 35184372088000) (w : World) :
    Calls Tryd.prog 50 #[.string s] w fun e w' => e = .returned (.tuple #[.string ⟨(unquote s.data.toList).1.toArray⟩, .int .i64 (unquote s.data.toList).2.1, .int .i64 (unquote s.data.toList).2.2]) ∧ Below w.heap.size w w' := by
  have hlen := unescape_len s.data.toList
  have hsz : s.data.toList.length = s.size := rfl
  rw [hsz] at hlen
  clear hsz
  generalize hu : unescape s.data.toList = u at hlen
  obtain ⟨t, n⟩ := u
  obtain ⟨hn, ht⟩ := hlen
  simp only at hn ht
  have Hu := Lib.hid hu
  clear hu
  have hn' : (n : Int) ≤ s.size := by omega
  by_cases h0 : n = 0
  · have hf : unquote s.data.toList = ([], 0, 2) := by
      unfold unquote
      rw [Hu.out, if_pos (.inl h0)]
    have Hf := Lib.hid hf
    have e0 : ((n : Int) == 0) = true := by simp [h0]
    clear hf h0
    go_enter Tryd.func50, Tryd.ntmps50
    go_wp2_with fail
    refine (unescape_any s (by omega) _).mono ?_
    rintro _ w1 ⟨rfl, hb1⟩
    rw [Hu.out]
    go_wp2_with fail
    go_quiet (fail)
    go_wp2_with fail
    go_ret3
    exact ⟨ret_sie (by rw [Hf.out]) (by rw [Hf.out]; rfl) (by rw [Hf.out]), below_drewN hb1 _⟩
  · have e0 : ((n : Int) == 0) = false := by rw [beq_eq_false_iff_ne]; omega
    have hts : (⟨t.toArray⟩ : ByteArray).size ≤ 35184372088000 := by rw [size_mk]; omega
    by_cases hq : quote t = s.data.toList.take n
    · have hbq : (quote t == (s.extract 0 n).toList) = true := by rw [beq_iff_eq, hq, cut_toList]
      have hf : unquote s.data.toList = (t, n, 0) := by
        unfold unquote
        rw [Hu.out, if_neg (by simp only; intro h; rcases h with h | h; exact h0 h; exact h hq)]
      have Hf := Lib.hid hf
      clear hq hf h0
      go_enter Tryd.func50, Tryd.ntmps50
      go_wp2_with fail
      refine (unescape_any s (by omega) _).mono ?_
      rintro _ w1 ⟨rfl, hb1⟩
      rw [Hu.out]
      go_wp2_with fail
      go_region_with (go_at_call 26; refine (quote_any _ hts _).mono ?_; rintro _ w2 ⟨rfl, hb2⟩)
      all_goals
        go_wp2_with fail
        go_ret3
        exact ⟨ret_sie (by rw [Hf.out]) (by rw [Hf.out]) (by rw [Hf.out]), hb1.trans (drew_below hb2 hb1.size)⟩
    · have hbq : (quote t == (s.extract 0 n).toList) = false := by rw [beq_eq_false_iff_ne, cut_toList]; exact hq
      have hf : unquote s.data.toList = ([], 0, 2) := by
        unfold unquote
        rw [Hu.out, if_pos (.inr hq)]
      have Hf := Lib.hid hf
      clear hq hf h0
      go_enter Tryd.func50, Tryd.ntmps50
      go_wp2_with fail
      refine (unescape_any s (by omega) _).mono ?_
      rintro _ w1 ⟨rfl, hb1⟩
      rw [Hu.out]
      go_wp2_with fail
      go_region_with (go_at_call 26; refine (quote_any _ hts _).mono ?_; rintro _ w2 ⟨rfl, hb2⟩)
      all_goals
        go_wp2_with fail
        go_ret3
        exact ⟨ret_sie (by rw [Hf.out]) (by rw [Hf.out]; rfl) (by rw [Hf.out]), hb1.trans (drew_below hb2 hb1.size)⟩
end Go.Proofs.YtoinfjdhbopefaaDoor.UtfE

/- Contracts of escape and Unquote of the reference of package utf. -/
set_option linter.unusedSimpArgs false
set_option linter.unusedVariables false
namespace Go.Proofs.YtoinfjdhbopefaaDoor.UtfL
open Go.RowKit Nums Byt UtfM UtfS UtfQ UtfD Room UtfH UtfP UtfR UtfE UtfK

/-- How many bytes such a form has with its backslash. -/
def rn (n : Nat) : Nat := if n = 0 then 0 else n + 1
theorem beq_yes {b c : UInt8} (h : b = c) : ((b.toNat : Int) == (c.toNat : Int)) = true := by rw [h]; simp
theorem bne_no {b c : UInt8} (h : b = c) : ((b.toNat : Int) != (c.toNat : Int)) = false := by rw [h]; simp
theorem bne_yes {b c : UInt8} (h : b ≠ c) : ((b.toNat : Int) != (c.toNat : Int)) = true := by
  rw [bne_iff_ne]
  intro e
  exact h (UInt8.toNat_inj.1 (by omega))

end Go.Proofs.YtoinfjdhbopefaaDoor.UtfL
