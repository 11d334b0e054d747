import Derived.Test.YthjpchnogllliaaGreatDoorRows
import Derived.WalkKit
import Derived.ProofKit
import Derived.OpenShut
import Derived.WalkSpells
import Derived.WalkLawsBesides
import Derived.Lib.Hide
import Derived.Laws.AppendOwn
import Derived.Laws.BytesArg
import Derived.IntWalk
/- Slices of bytes that the call has made: what append and the conversion to a string do with them. Of no program. -/
namespace Go.Proofs.YthjpchnogllliaaGreatDoor.Byt
open Go.RowKit

/-- A byte as a value of the model. -/
def bv (c : UInt8) : Value := .int .u8 (c.toNat : Int)
/-- The slice v belongs to the call and holds the bytes l. -/
def OwnB (w : World) (base : Nat) (e : TypeId) (v : Value) (l : List UInt8) : Prop := w.ownsRow base e 1 v l.length (l.map bv)

theorem OwnB.nil (w : World) (base : Nat) (e : TypeId) : OwnB w base e (.slice none 0 0) [] := World.ownsRow_nil w base e 1

theorem OwnB.alloc {w : World} {base : Nat} {e : TypeId} {v : Value} {l : List UInt8} (h : OwnB w base e v l) (o : Obj) : OwnB (w.alloc o) base e v l := World.ownsRow.alloc h o
/-- Growth of such a slice changes nothing that is older. -/
theorem OwnB.below {w a w' : World} {base : Nat} {e : TypeId} {v : Value} {l : List UInt8} (h : OwnB w base e v l) (hb : Below base a w) (hg : w.grownBy w' v.ownBlock) (hs : base ≤ w.heap.size) : Below base a w' :=
  hb.grown hg hs (fun k hk => (World.ownsRow.lt h k hk).1)

theorem getD_app {l r : List UInt8} {i : Nat} (h : i < l.length) : (l ++ r).getD i 0 = l.getD i 0 := by
  simp [List.getD, List.getElem?_append_left h]

theorem str_toList (l : List UInt8) : (⟨l.toArray⟩ : ByteArray).data.toList = l := rfl

theorem cell_new (w : World) (v : Value) (t : TypeId) : (w.alloc (.cells #[v] t)).cell? ⟨w.heap.size, 0, none⟩ = some v := by
  rw [World.cell?_alloc_at _ _ _ _ rfl]; rfl
theorem size_alloc {w : World} {o : Obj} {n : Nat} (h : n ≤ w.heap.size) : n ≤ (w.alloc o).heap.size := by simp; omega

section
variable {P : Program}
/-- What the element type's row of the table says of bytes. -/
structure ByteTy (P : Program) (t e : TypeId) : Prop where
  ht : P.underlying t = some (.slice e)
  he : P.underlying e = some (.int .u8)
  hi : ∃ i, P.info? e = some i ∧ i.zero = some (.int .u8 0) ∧ i.size = 1 ∧ i.bytes = 1

theorem wpList_append_byte {w : World} {ops : Array Oper} {rest : List Oper} {o : Oper} {a : Act} {Q : Exit → Act → World → Prop} (hgd : o.guard = none) (s x : Operand) {t e : TypeId} (T : ByteTy P t e)
    (ho : o.op = .call { callee := .builtin .append, args := #[s, x], argTypes := #[t, t] })
    (base : Nat) (v : Value) (l : List UInt8) (hs : a.eval s = v) (hown : OwnB w base e v l)
    (g c : Nat) (n : Int) (b : UInt8) (hx : a.eval x = .slice (some ⟨g, 0, none⟩) 1 c)
    (h : ∀ v' w', OwnB w' base e v' (l ++ [b]) → w.grownBy w' v.ownBlock → wpList P ops Q rest (a.put o.dst v') w')
    (hcell : w.cell? ⟨g, 0, none⟩ = some (.int .u8 n)) (hn : n = (b.toNat : Int))
    (hlen : l.length + 1 ≤ 140737488355328) (hbase : base ≤ w.heap.size) : wpList P ops Q (o :: rest) a w := by
  obtain ⟨i, hi, hz, h1, h2⟩ := T.hi
  refine wpList_append_own w hgd s x t ho base e i (.int .u8 0) 1 1 T.ht hi hz h1 h2 rfl (by omega) v l.length (l.map bv) hs hown ⟨g, 0, none⟩ 1 c [bv b] hx rfl ?_ ?_ (by unfold maxLen; omega) (by omega) hbase ?_
  · intro j u hj
    cases j with
    | zero =>
      simp only [List.getElem?_cons_zero, Option.some.injEq] at hj
      subst hj
      rw [bv, ← hn]
      simpa [Addr.add] using hcell
    | succ j => simp at hj
  · intro u hu
    simp only [List.mem_singleton] at hu
    subst hu
    rfl
  · intro v' w' ho' hg _
    refine h v' w' ?_ hg
    unfold OwnB
    simpa using ho'

/-- The string of a slice whose cells hold the bytes l. -/
theorem conv_cells {w : World} {t e : TypeId} (T : ByteTy P t e) {d : TypeId} (hd : P.underlying d = some .string) (g n c : Nat) (l : List UInt8) (hn : n = l.length)
    (hc : ∀ i, i < l.length → w.cell? ⟨g, i, none⟩ = some (bv (l.getD i 0))) : (convert t d (.slice (some ⟨g, 0, none⟩) n c)).run P w = .ok (.string ⟨l.toArray⟩) w := by
  subst hn
  rw [run_convert_bytes_arg (P := P) w t e T.ht T.he g 0 l.length c (l.map fun c => (c.toNat : Int)) (by simp) (fun i hi => by
    rw [Nat.zero_add, hc i hi]
    simp [bv, List.getD, hi]) d hd]
  congr 3
  unfold strOfNums
  congr 2
  rw [List.map_map]
  conv => rhs; rw [← List.map_id l]
  apply List.map_congr_left
  intro c _
  simp

/-- The string of such a slice. -/
theorem OwnB.conv {w : World} {base : Nat} {t e : TypeId} {v : Value} {l : List UInt8} (h : OwnB w base e v l) (T : ByteTy P t e) {d : TypeId} (hd : P.underlying d = some .string) :
    (convert t d v).run P w = .ok (.string ⟨l.toArray⟩) w := by
  rcases h.2 with ⟨rfl, hn⟩ | ⟨g, cap, cur, rfl, hb, hg, hc, _, hsz, htk⟩
  · have hl : l = [] := List.eq_nil_of_length_eq_zero hn
    subst hl
    rw [run_convert_bytes_nil w t e T.ht T.he 0 0 d hd]
    rfl
  · have hr := run_convert_bytes_arg (P := P) w t e T.ht T.he g 0 l.length cap (l.map fun c => (c.toNat : Int)) (by simp) (fun i hi => by
      have h1 : (l.map bv)[i]? = some (bv l[i]) := by simp [hi]
      have h2 := h.cells (g := g) rfl i _ h1
      have hadd : (⟨g, 0, none⟩ : Addr).add i = ⟨g, 0 + i, none⟩ := by unfold Addr.add; split <;> simp_all
      rw [hadd] at h2
      rw [h2]
      simp [bv, List.getD, hi]) d hd
    rw [hr]
    congr 3
    unfold strOfNums
    congr 2
    rw [List.map_map]
    conv => rhs; rw [← List.map_id l]
    apply List.map_congr_left
    intro c _
    simp
end
end Go.Proofs.YthjpchnogllliaaGreatDoor.Byt

/- The byte type of the program, as the table has it. -/
namespace Go.Proofs.YthjpchnogllliaaGreatDoor.BytT
open Go.RowKit Byt

theorem info : (Tryz.prog.info? 5).map (fun i => (i.zero, i.size, i.bytes)) = some (some (.int .u8 0), 1, 1) := by kernel_rfl
theorem bytesT : ByteTy Tryz.prog 57 5 := by
  refine ⟨Tryz.underlying57, Tryz.underlying5, ?_⟩
  obtain ⟨i, hi, h0, h1, h2⟩ := info_parts info
  exact ⟨i, hi, h0, h1, h2⟩

theorem ret_str {a b : ByteArray} (h : a = b) : Ending.returned (.string a) = .returned (.string b) := by rw [h]

end Go.Proofs.YthjpchnogllliaaGreatDoor.BytT
