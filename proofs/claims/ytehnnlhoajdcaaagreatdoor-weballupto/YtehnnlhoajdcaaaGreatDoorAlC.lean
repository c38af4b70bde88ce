import Derived.Test.YtehnnlhoajdcaaaGreatDoorRows
import Derived.Test.YtehnnlhoajdcaaaGreatDoorChecked
import Derived.Deep.DeepHandedRow
import Derived.ProofKit
namespace Go.Proofs.YtehnnlhoajdcaaaGreatDoor
theorem al_in : (Rows.webAllUptoRow.inPlace == Tryz.pinned.checked.prog.inPlace 6) = true := by kernel_rfl
theorem al_un : (Rows.webAllUptoRow.unfollowed == Tryz.pinned.checked.prog.unfollowed 6) = true := by kernel_rfl
theorem al_re : (Rows.webAllUptoRow.recurses == Tryz.pinned.checked.prog.recurses 6) = true := by kernel_rfl
theorem al_na : (Rows.webAllUptoRow.named == Tryz.pinned.checked.prog.varsNamed 6) = true := by kernel_rfl
theorem al_closed : joinedFacts Tryz.pinned.checked.prog 6 Tryz.f6 (Rows.OpenSpec.upto Rows.webAllSpec).bare Rows.webAllUptoRow = true := by
 unfold joinedFacts
 rw [al_in, al_un, al_re, al_na]
 kernel_rfl
end Go.Proofs.YtehnnlhoajdcaaaGreatDoor
