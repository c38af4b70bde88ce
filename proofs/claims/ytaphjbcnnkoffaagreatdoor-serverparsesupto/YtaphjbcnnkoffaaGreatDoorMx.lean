import Derived.Test.YtaphjbcnnkoffaaGreatDoorMw
namespace Go.Proofs.YtaphjbcnnkoffaaGreatDoor
open Go.RowKit Go.Shelf TextNum ModNum
theorem vcore_len (l : List UInt8) : (vcore l).length ≤ l.length := by
  unfold vcore tsf
  split
  · rw [List.length_take, List.length_drop]; omega
  · rw [List.length_drop]; omega
theorem vp_ws (l : List UInt8) : (vp l).ws.length ≤ 129 := by
  unfold vp
  cases h : ver l with
  | none => simp [zp]
  | some q =>
    have hl := (ver_len h).1
    unfold ver at h
    split at h
    · cases h
    · split at h
      · injection h with h
        subst h
        simp only [Option.getD_some, vprt]
        split
        · have := pcs_len 46 (bhd 45 (vcore l))
          have := bhd_len 45 (vcore l)
          have := vcore_len l
          omega
        · simp
      · cases h
end Go.Proofs.YtaphjbcnnkoffaaGreatDoor
