import Derived.Test.YtaibjeehjhlicaaDoorYas
import Derived.Test.YtaibjeehjhlicaaDoorYau
namespace Go.Proofs.YtaibjeehjhlicaaDoor
open Go.RowKit Go.Shelf TextNum ModNum
theorem wrF_ok {room used n m : Nat} {p : Int} (h : wrF room used n p m = 0) : 0 ≤ p ∧ p ≤ 1048576 ∧ (0 < gro n p m → used + gro n p m ≤ room) := by
  unfold wrF at h
  by_cases h1 : p < 0 ∨ 1048576 < p
  · rw [if_pos h1] at h; cases h
  rw [if_neg h1] at h
  by_cases h2 : 0 < gro n p m ∧ (room : Int) < used + gro n p m
  · rw [if_pos h2] at h; cases h
  refine ⟨by omega, by omega, fun h3 => ?_⟩
  rcases Int.lt_or_le (room : Int) (used + gro n p m) with h4 | h4
  · exact absurd ⟨h3, h4⟩ h2
  · exact h4
/-- what a write leaves of the disk -/
def WrS (s s' : DD) (f : FL) (p : Int) (ds : List UInt8) : Prop :=
  (wrF s.room (usd s.nf) f.nb.length p ds.length ≠ 0 ∨ ds = [] → s' = acS s) ∧ (wrF s.room (usd s.nf) f.nb.length p ds.length = 0 → ds ≠ [] → ∃ vn vo vk ba bk, s' = flS (acS s) f.b (wtF f p.toNat ds vn vo vk ba bk s.trn) (s.trn + 1))
set_option maxRecDepth 100000 in
set_option maxHeartbeats 1000000 in
theorem Read_yes {B D T : Nat} {s : DD} (nm : ByteArray) (f : FL) (w : World) (h : DOk w B D T s) (hfm : (nm.data.toList, f) ∈ s.nf) (hd : s.dead = false) :
    Calls Tryd.prog 11 #[pv D, .string nm] w fun e w' => ∃ v, e = .returned (.tuple #[v, .int .i64 0]) ∧ Ow w' w.heap.size v f.nb ∧ Up w w' := by
  have HI := Hid.of h
  have HF := Hid.of (find_yes nm f w h hfm)
  have HFM := Hid.of hfm
  have c2 := (h.disk0 hd).cell (i := 2) rfl
  clear h hfm
  go_enter Tryd.func11, Tryd.ntmps11
  go_wp2_with fail
  refine HF.out.mono ?_
  rintro e w2 ⟨rfl, u2⟩
  have HU2 := Hid.of u2
  have HI2 := Hid.of (HI.out.up u2)
  clear u2 HI
  dsimp only
  have c0 := (HI2.out.fok f (mem_fls_nf HFM.out)).file.cell (i := 0) rfl
  have hsz := HI2.out.sz f (mem_fls_nf HFM.out)
  go_wp2_with fail
  refine (Clone_walk f.vn f.nb w2 (Ow.sb (HI2.out.fok f (mem_fls_nf HFM.out)).now) (by omega)).mono ?_
  rintro e w3 ⟨v3, rfl, o3, u3⟩
  have HO3 := Hid.of (ow_base o3 HU2.out.size)
  have HU3 := Hid.of (HU2.out.trans u3)
  clear o3 u3 c2 c0
  dsimp only
  go_wp2
  go_ret2
  exact ⟨_, rfl, HO3.out, HU3.out⟩
set_option maxRecDepth 100000 in
theorem Used_gen {B D T : Nat} {s : DD} (w : World) (h : DOk w B D T s) (hd : s.dead = false) :
    Calls Tryd.prog 8 #[pv D] w fun e w' => e = .returned (.int .i64 (usd s.nf : Int)) ∧ w' = w := by
  have c2 := (h.disk0 hd).cell (i := 2) rfl
  have c1 := (h.disk0 hd).cell (i := 1) rfl
  clear h
  go_enter Tryd.func8, Tryd.ntmps8
  go_wp2
  go_ret
  exact ⟨rfl, rfl⟩
/-- sorted texts -/
def srt (xs : List (List UInt8)) : List (List UInt8) := xs.mergeSort fun x y => decide (x ≤ y)
theorem srt_pw (xs : List (List UInt8)) : (srt xs).Pairwise (fun x y => x ≤ y) := by
  have := List.pairwise_mergeSort (le := fun x y : List UInt8 => decide (x ≤ y)) (fun a b c h k => by simp only [decide_eq_true_eq] at h k ⊢; exact List.le_trans h k) (fun a b => by rcases List.le_total a b with h | h <;> simp [h]) xs
  unfold srt
  simpa using this
theorem srt_perm (xs : List (List UInt8)) : (srt xs).Perm xs := List.mergeSort_perm xs _
theorem srt_eq {xs ys : List (List UInt8)} (h : xs.Perm ys) : srt xs = srt ys :=
  List.Perm.eq_of_pairwise (le := fun x y => x ≤ y) (fun _ _ _ _ h k => List.le_antisymm h k) (srt_pw xs) (srt_pw ys) ((srt_perm xs).trans (h.trans (srt_perm ys).symm))
/-- the names that begin so, sorted -/
def lsN (nf : List (List UInt8 × FL)) (p : List UInt8) : List (List UInt8) := srt ((nf.map (·.1)).filter fun l => pfx p l)
theorem List_gen {B D T : Nat} {s : DD} (p : ByteArray) (w : World) (h : DOk w B D T s) (hd : s.dead = false) :
    Calls Tryd.prog 16 #[pv D, .string p] w fun e w' => ∃ v, e = .returned v ∧ SlS w' v (lsN s.nf p.data.toList) ∧ Up w w' := by
  have hn := h.num
  refine (List_walk D s.M s.nM s.dm p _ _ _ _ _ _ _ _ _ _ w (by omega) (h.disk0 hd) h.mnow).mono ?_
  rintro e w' ⟨v, xs, rfl, q1, q2, q3⟩
  refine ⟨v, rfl, ?_, q3⟩
  have hp : xs.Perm ((s.nf.map (·.1)).filter fun l => pfx p.data.toList l) := (List.perm_ext_iff_of_nodup q2.nd (List.Nodup.sublist List.filter_sublist h.nd)).2 (fun l => by
    rw [q2.mem l, List.mem_filter, h.isn.has l]
    simp)
  have e : xs.mergeSort (fun x y => decide (x ≤ y)) = lsN s.nf p.data.toList := srt_eq hp
  rw [← e]
  exact q1
end Go.Proofs.YtaibjeehjhlicaaDoor
