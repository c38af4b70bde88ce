import Derived.Test.YtaibjeehjhlicaaDoorDa
import Derived.OwnWalk
namespace Go.Proofs.YtaibjeehjhlicaaDoor
open Go.RowKit TextNum
theorem Tryd.infoU8 : (Tryd.prog.info? 5).map (fun i => (i.zero, i.size, i.bytes)) = some (some (.int .u8 0), 1, 1) := by kernel_rfl
/-- a slice that reads as these bytes -/
def Sb (w : World) (v : Value) (ds : List UInt8) : Prop :=
  ∃ a c, v = .slice a ds.length c ∧ ds.length ≤ c ∧ c ≤ maxLen ∧ (a = none → ds = [] ∧ c = 0) ∧ ∀ ad, a = some ad → (ds ≠ [] → ad.spot = none) ∧ ∀ j u, (cb ds)[j]? = some u → w.cell? (ad.add j) = some u
theorem Sb.kept {w w' : World} {v : Value} {ds : List UInt8} {row : Option Nat} (h : Sb w v ds) (hg : w.grownBy w' row) (hne : v.ownBlock = none ∨ v.ownBlock ≠ row) : Sb w' v ds := by
  obtain ⟨a, c, rfl, h1, h2, h3, h4⟩ := h
  refine ⟨a, c, rfl, h1, h2, h3, fun ad e => ⟨(h4 ad e).1, fun j u hj => ?_⟩⟩
  subst e
  rcases hne with h | h
  · cases h
  · obtain ⟨b, o, sp⟩ := ad
    obtain rfl : sp = none := (h4 _ rfl).1 (fun e => by rw [e] at hj; cases hj)
    refine hg.cell ((h4 _ rfl).2 j u hj) ?_
    rw [Addr.add_lit]
    exact h
theorem Sb.up {w w' : World} {v : Value} {ds : List UInt8} (h : Sb w v ds) (k : Up w w') : Sb w' v ds := by
  obtain ⟨a, c, rfl, h1, h2, h3, h4⟩ := h
  exact ⟨a, c, rfl, h1, h2, h3, fun ad e => ⟨(h4 ad e).1, fun j u hj => k.cell ((h4 ad e).2 j u hj)⟩⟩
abbrev Ow (w : World) (B : Nat) (v : Value) (xs : List UInt8) : Prop := w.ownsRow B 5 1 v xs.length (cb xs)
theorem Ow.sb {w : World} {B : Nat} {v : Value} {xs : List UInt8} (h : Ow w B v xs) : Sb w v xs := by
  rcases h.2 with ⟨rfl, h0⟩ | ⟨g, cap, cur, rfl, _, hg, hnc, hcm, _, _⟩
  · have : xs = [] := List.eq_nil_of_length_eq_zero h0
    subst this
    exact ⟨none, 0, rfl, by simp, by simp, fun _ => ⟨rfl, rfl⟩, fun _ e => by cases e⟩
  · refine ⟨_, cap, rfl, hnc, hcm, fun e => ?_, fun ad e => ?_⟩
    · cases e
    · obtain rfl := Option.some.inj e
      exact ⟨fun _ => rfl, World.ownsRow.cells h rfl⟩
/-- the bytes ds laid over xs from p on -/
def wr (xs : List UInt8) (p : Nat) (ds : List UInt8) : List UInt8 := if ds = [] then xs else splice (xs ++ List.replicate (p + ds.length - xs.length) 0) p ds
theorem cb_splice (L ds : List UInt8) (p : Nat) : cb (splice L p ds) = splice (cb L) p (cb ds) := by
  unfold splice cb
  simp
theorem cb_zeros (m : Nat) : cb (List.replicate m 0) = List.replicate m (Value.int .u8 0) := by
  unfold cb
  rw [List.map_replicate]
  rfl
theorem cb_one (l : List UInt8) : ∀ u ∈ cb l, u.oneCell' = true := fun u hu => by
  obtain ⟨c, _, rfl⟩ := List.mem_map.1 hu
  rfl
theorem splice_take {α : Type} (L cs : List α) (p n : Nat) (h : p + cs.length ≤ n) (hn : n ≤ L.length) : (splice L p cs).take n = splice (L.take n) p cs := by
  unfold splice
  have e1 : (L.take p).length = p := by rw [List.length_take]; omega
  rw [List.take_append, List.take_append, e1, List.take_take, List.take_take, Nat.min_eq_left (show p ≤ n by omega), Nat.min_eq_right (show p ≤ n by omega), List.take_of_length_le (l := cs) (by omega), List.drop_take, Nat.sub_sub]
theorem splice_len {α : Type} (L : List α) (off : Nat) (cs : List α) (h : off + cs.length ≤ L.length) : (splice L off cs).length = L.length := length_splice L off cs h
theorem wr_len (xs : List UInt8) (p : Nat) (ds : List UInt8) (h : ds ≠ []) : (wr xs p ds).length = max xs.length (p + ds.length) := by
  unfold wr
  rw [if_neg h, splice_len _ _ _ (by rw [List.length_append, List.length_replicate]; omega), List.length_append, List.length_replicate]
  omega
/-- the copy's end -/
theorem own_splice {w : World} {B : Nat} {v : Value} {ys ds : List UInt8} {g cap p : Nat} {cur : Array Value} (hv : v = .slice (some ⟨g, 0, none⟩) ys.length cap) (hB : B ≤ g) (hg : w.heap[g]? = some (.cells cur 5 (0, 0))) (hnc : ys.length ≤ cap) (hcm : cap ≤ maxLen)
    (hcs : cur.size = cap * 1) (ht : cur.toList.take (ys.length * 1) = cb ys) (hp : p + ds.length ≤ ys.length) :
    Ow (w.setRow g (cur.toList.take p ++ (cb ds ++ cur.toList.drop (p + (cb ds).length))).toArray) B v (splice ys p ds) := by
  have hl := splice_len ys p ds hp
  have hc : cur.toList.length = cur.size := Array.length_toList
  subst hv
  refine ⟨by rw [cb_length, Nat.mul_one], .inr ⟨g, cap, _, by rw [hl], hB, setRow_heap w g cur _ _ _ hg, by rw [hl]; exact hnc, hcm, ?_, ?_⟩⟩
  · have h0 : p + (cb ds).length ≤ cur.toList.length := by rw [cb_length, hc]; omega
    have h1 : (splice cur.toList p (cb ds)).length = cur.toList.length := splice_len _ _ _ h0
    unfold splice at h1
    rw [List.size_toArray, h1, hc]
    exact hcs
  · have h1 := splice_take cur.toList (cb ds) p ys.length (by rw [cb_length]; exact hp) (by rw [hc]; omega)
    rw [Nat.mul_one] at ht ⊢
    rw [hl, cb_splice, ← ht]
    exact h1
end Go.Proofs.YtaibjeehjhlicaaDoor
