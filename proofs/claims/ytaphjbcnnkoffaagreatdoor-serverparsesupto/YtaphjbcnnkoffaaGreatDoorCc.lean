import Derived.Test.YtaphjbcnnkoffaaGreatDoorCb
namespace Go.Proofs.YtaphjbcnnkoffaaGreatDoor
open Go.RowKit Go.Shelf TextNum ModNum
theorem drop_at {s : ByteArray} {i : Nat} (h : i < s.size) : s.data.toList.drop i = s[i] :: s.data.toList.drop (i + 1) := by
  rw [List.drop_eq_getElem_cons (by rw [len_of]; exact h)]
  rfl
theorem cmpB_at {a b : ByteArray} {i : Nat} (ha : i < a.size) (hb : i < b.size) : cmpB (a.data.toList.drop i) (b.data.toList.drop i) = if a[i].toNat < b[i].toNat then -1 else if b[i].toNat < a[i].toNat then 1 else cmpB (a.data.toList.drop (i + 1)) (b.data.toList.drop (i + 1)) := by
  rw [drop_at ha, drop_at hb]
  rfl
theorem wrd_num {l : List UInt8} (h : isWrd l = true) : isNum l = dgl l := by
  have h1 := isWrd_eq l
  rw [h] at h1
  cases hd : dgl l with
  | true =>
    rw [hd] at h1
    simp at h1
    exact h1.2
  | false => rw [isNum_eq, hd]; rfl
end Go.Proofs.YtaphjbcnnkoffaaGreatDoor
