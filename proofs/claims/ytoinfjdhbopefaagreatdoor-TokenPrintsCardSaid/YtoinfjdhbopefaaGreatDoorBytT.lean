/- The byte type of the program, as the table has it. -/
import Derived.Test.YtoinfjdhbopefaaGreatDoorByt
namespace Go.Proofs.YtoinfjdhbopefaaGreatDoor.BytT
open Go.RowKit Byt

theorem info : (Tryz.prog.info? 5).map (fun i => (i.zero, i.size, i.bytes)) = some (some (.int .u8 0), 1, 1) := by kernel_rfl
theorem bytesT : ByteTy Tryz.prog 41 5 := by
  refine ⟨Tryz.underlying41, Tryz.underlying5, ?_⟩
  obtain ⟨i, hi, h0, h1, h2⟩ := info_parts info
  exact ⟨i, hi, h0, h1, h2⟩

theorem ret_str {a b : ByteArray} (h : a = b) : Ending.returned (.string a) = .returned (.string b) := by rw [h]

end Go.Proofs.YtoinfjdhbopefaaGreatDoor.BytT
