import Derived.Test.YtngagdfemdamdaaDoorDh
import Derived.Lib.ConvBytes
namespace Go.Proofs.YtngagdfemdamdaaDoor
open Go.RowKit Go.Shelf TextNum ModNum
set_option maxRecDepth 100000 in
theorem conv_sb {w : World} {v : Value} {l : List UInt8} (h : Sb w v l) : (convert 29 9 v).run Tryd.prog w = .ok (.string ⟨l.toArray⟩) w := by
  obtain ⟨a, c, rfl, _, _, h3, h4⟩ := h
  cases a with
  | none =>
    obtain ⟨rfl, rfl⟩ := h3 rfl
    exact run_convert_bytes_nil w 29 5 Tryd.underlying29 Tryd.underlying5 _ _ 9 Tryd.underlying9
  | some ad =>
    exact run_convert_bytes_back w 29 9 5 ad c l Tryd.underlying29 Tryd.underlying5 Tryd.underlying9 (fun j hj => (h4 ad rfl).2 j _ (cb_get hj))
/-- the list that is held beside the disk stands apart -/
def Wap (vW : Value) (s : DS) : Prop := ∀ g, vW.ownBlock = some g → s.vn.ownBlock ≠ some g ∧ s.vl.ownBlock ≠ some g ∧ ∀ l ∈ s.lo, l.vk.ownBlock ≠ some g
theorem Inv.wanted {w w' : World} {B B' D M F T : Nat} {s : DS} {vW : Value} {ws : List UInt8} (h : Inv w B D M F T s) (o : Ow w B' vW ws) (hB : B ≤ B') (ap : Wap vW s) (g : w.grownBy w' vW.ownBlock) : Inv w' B D M F T s := by
  have lw := World.ownsRow.lt o
  have key : ∀ {e : TypeId} {m n : Nat} {v : Value} {xs : List Value}, w.ownsRow B e m v n xs → (∀ k, vW.ownBlock = some k → v.ownBlock ≠ some k) → w'.ownsRow B e m v n xs := fun k hk => World.ownsRow.kept k g (by
    rename_i v _
    cases hq : v.ownBlock with
    | none => exact .inl rfl
    | some j => exact .inr (fun e => hk j e.symm hq))
  obtain ⟨m, hm⟩ := h.ml
  refine ⟨⟨m, g.cell hm (fun e => ?_)⟩, h.low, Nat.le_trans h.hB g.size, h.disk.by g (own_ne o h.disk (by decide)), World.ownsMap.kept h.map g (fun e => map_own h.map o e.symm), h.file.by g (own_ne o h.file (by decide)), key h.now (fun k hk => (ap k hk).1), key h.last (fun k hk => (ap k hk).2.1), h.apart, key h.loose (fun k hk => own_apart o h.loose (by decide) hk), fun l hl => ?_, h.room, h.nbl, h.lbl, h.num⟩
  · have h1 := (lw _ e.symm).1
    have h2 : B' ≤ 0 := h1
    have h3 := h.low.1
    omega
  · have he := h.each l hl
    exact ⟨he.pa.by g (own_ne o he.pa (by decide)), he.pk.by g (own_ne o he.pk (by decide)), key he.own (fun k hk => (ap k hk).2.2 l hl), he.ap, he.len⟩
/-- the held list's next state -/
theorem Wap.frs {w : World} {B D M F T : Nat} {s : DS} {vW vW' : Value} (h : Inv w B D M F T s) (ap : Wap vW s) (f : Frs w vW vW') : Wap vW' s := fun g hg => by
  rcases f g hg with h1 | h1
  · exact ap g h1
  · refine ⟨fun e => ?_, fun e => ?_, fun l hl e => ?_⟩
    · have := (World.ownsRow.lt h.now g e).2; omega
    · have := (World.ownsRow.lt h.last g e).2; omega
    · have := (World.ownsRow.lt (h.each l hl).own g e).2; omega
/-- the disk's next state -/
theorem Wap.nx {w : World} {B' : Nat} {s s' : DS} {vW : Value} {ws : List UInt8} (o : Ow w B' vW ws) (ap : Wap vW s) (n : Nx w s s') : Wap vW s' := fun g hg => by
  have hl := (World.ownsRow.lt o g hg).2
  refine ⟨fun e => ?_, fun e => ?_, fun l hll e => ?_⟩
  · rcases n.vn g e with h | h
    · exact (ap g hg).1 h
    · omega
  · rcases n.vl g e with h | h
    · exact (ap g hg).2.1 h
    · omega
  · rcases n.lo l hll with h | h
    · exact (ap g hg).2.2 l h e
    · have := h g e; omega
theorem Ow.fr {w w' : World} {B B' D M F T : Nat} {s : DS} {vW : Value} {ws : List UInt8} (h : Inv w B D M F T s) (o : Ow w B' vW ws) (ap : Wap vW s) (f : Fr (Sd D F s) w w') : Ow w' B' vW ws :=
  f.own o (fun g hg hk => by
    rcases hk with hk | hk | hk | hk | hk
    · exact own_ne o h.disk (by decide) (hk ▸ hg)
    · exact own_ne o h.file (by decide) (hk ▸ hg)
    · exact (ap g hg).1 hk
    · exact (ap g hg).2.1 hk
    · exact own_apart o h.loose (by decide) hg hk)
theorem up_fr {w0 w w' : World} {D M F T : Nat} {s : DS} (u : Up w0 w) (h : Inv w w0.heap.size D M F T s) (f : Fr (Sd D F s) w w') : Up w0 w' :=
  ⟨f.os.trans u.os, f.tape.trans u.tape, f.output.trans u.output, Nat.le_trans u.size f.size, fun j hj => (f.block j (Nat.lt_of_lt_of_le hj u.size) (fun hk => by
    rcases hk with hk | hk | hk | hk | hk
    · have := h.low; omega
    · have := h.low; omega
    · have := (World.ownsRow.lt h.now j hk).1; omega
    · have := (World.ownsRow.lt h.last j hk).1; omega
    · have := (World.ownsRow.lt h.loose j hk).1; omega)).trans (u.block j hj)⟩
/-- one byte is stored -/
theorem Ow.put {w : World} {B g n c : Nat} {ys : List UInt8} (o : Ow w B (.slice (some ⟨g, 0, none⟩) n c) ys) (i : Nat) (x : UInt8) : Ow (w.setCell ⟨g, i, none⟩ (.int .u8 (x.toNat : Int))) B (.slice (some ⟨g, 0, none⟩) n c) (ys.set i x) := by
  rcases o.2 with ⟨h, _⟩ | ⟨g', cap, cur, e, hb, hg, hnc, hcm, hcs, ht⟩
  · cases h
  · injection e with e1 e2 e3
    injection e1 with e1
    injection e1 with e1
    subst e1 e2 e3
    refine ⟨by rw [cb_length, Nat.mul_one], .inr ⟨g, c, _, by rw [List.length_set], hb, heap_setCell_same w g i cur _ _ hg, by rw [List.length_set]; exact hnc, hcm, ?_, ?_⟩⟩
    · rw [Array.size_setIfInBounds]; exact hcs
    · rw [List.length_set, Array.toList_setIfInBounds, List.take_set, ht]
      unfold cb
      rw [List.map_set]
theorem ow_cells {w : World} {B g n c : Nat} {ys : List UInt8} (o : Ow w B (.slice (some ⟨g, 0, none⟩) n c) ys) {i : Nat} (hi : i < ys.length) : w.cell? ⟨g, i, none⟩ = some (.int .u8 (ys[i].toNat : Int)) ∧ w.frozen? ⟨g, i, none⟩ = false := by
  have h1 := World.ownsRow.cells o rfl i _ (cb_get hi)
  rw [Addr.add_lit] at h1
  refine ⟨by simpa using h1, ?_⟩
  rcases o.2 with ⟨h, _⟩ | ⟨g', cap, cur, e, _, hg, _⟩
  · cases h
  · injection e with e1
    injection e1 with e1
    injection e1 with e1
    subst e1
    simp [World.frozen?, hg]
theorem splice_step (ys ds : List UInt8) (p j : Nat) (hj : j < ds.length) (hp : p + ds.length ≤ ys.length) : (splice ys p (ds.take j)).set (p + j) ds[j] = splice ys p (ds.take (j + 1)) := by
  unfold splice
  have e1 : (ys.take p).length = p := by rw [List.length_take]; omega
  have e2 : (ds.take j).length = j := by rw [List.length_take]; omega
  have e3 : (ds.take (j + 1)).length = j + 1 := by rw [List.length_take]; omega
  rw [List.set_append, if_neg (by rw [e1]; omega), e1, show p + j - p = j by omega, List.set_append, if_neg (by rw [e2]; omega), e2, e3, Nat.sub_self]
  rw [List.take_succ_eq_append_getElem hj, List.append_assoc]
  congr 2
  have hd : p + j < ys.length := by omega
  rw [List.drop_eq_getElem_cons hd, List.set_cons_zero]
  rfl
theorem splice_zero (ys : List UInt8) (p : Nat) : splice ys p [] = ys := by
  unfold splice
  simp
end Go.Proofs.YtngagdfemdamdaaDoor
