import Derived.Test.YtaibjeehjhlicaaGreatDoorQal
import Derived.Test.YtaibjeehjhlicaaGreatDoorQam
namespace Go.Proofs.YtaibjeehjhlicaaGreatDoor
open Go.RowKit Go.Shelf TextNum ModNum
theorem wrF_ok {room used n m : Nat} {p : Int} (h : wrF room used n p m = 0) : 0 ≤ p ∧ p ≤ 1048576 ∧ (0 < gro n p m → used + gro n p m ≤ room) := by
  unfold wrF at h
  by_cases h1 : p < 0 ∨ 1048576 < p
  · rw [if_pos h1] at h; cases h
  rw [if_neg h1] at h
  by_cases h2 : 0 < gro n p m ∧ (room : Int) < used + gro n p m
  · rw [if_pos h2] at h; cases h
  refine ⟨by omega, by omega, fun h3 => ?_⟩
  rcases Int.lt_or_le (room : Int) (used + gro n p m) with h4 | h4
  · exact absurd ⟨h3, h4⟩ h2
  · exact h4
/-- what a write leaves of the disk -/
def WrS (s s' : DD) (f : FL) (p : Int) (ds : List UInt8) : Prop :=
  (wrF s.room (usd s.nf) f.nb.length p ds.length ≠ 0 ∨ ds = [] → s' = acS s) ∧ (wrF s.room (usd s.nf) f.nb.length p ds.length = 0 → ds ≠ [] → ∃ vn vo vk ba bk, s' = flS (acS s) f.b (wtF f p.toNat ds vn vo vk ba bk s.trn) (s.trn + 1))
set_option maxRecDepth 100000 in
set_option maxHeartbeats 4000000 in
theorem Write_gen {B D T : Nat} {s : DD} (nm : ByteArray) (f : FL) (p : Int) (vd : Value) (ds : List UInt8) (w : World) (h : DOk w B D T s) (hfm : (nm.data.toList, f) ∈ s.nf) (hdt : Sb w vd ds) (hvd : vd.ownBlock ≠ some D) (hm : ds.length ≤ 1048576) (hd : s.dead = false) (hu : s.unt ≤ 4611686018427387904) (hu1 : s.unt ≠ 1) (hT : T + 2 ≤ 100000) :
    Calls Tryz.prog 22 #[pv D, .string nm, .int .i64 p, vd] w fun e w' => e = .returned (.int .i64 (wrF s.room (usd s.nf) f.nb.length p ds.length)) ∧ ∃ s', Aft w w' B D T s s' ∧ WrS s s' f p ds := by
  obtain ⟨ad, cd, rfl, _⟩ := id hdt
  obtain ⟨an, cn, hvn, _⟩ := h.file hfm
  have HD := Hid.of hdt
  have HVD := Hid.of hvd
  have HI := Hid.of h
  have HFM := Hid.of hfm
  have hnum := h.num
  have hsz := h.sz f (mem_fls_nf hfm)
  have HNum := Hid.of hnum
  clear hdt h hfm hvd
  obtain ⟨er, her⟩ : ∃ er, wrF s.room (usd s.nf) f.nb.length p ds.length = er := ⟨_, rfl⟩
  have HER := Hid.of her
  have a1 := at_new w 24 [pv D]
  have a2 := at_new (w.alloc (.cells [pv D].toArray 24)) 3 [.int .i64 p]
  have a3 := at_new ((w.alloc (.cells [pv D].toArray 24)).alloc (.cells [.int .i64 p].toArray 3)) 41 [.slice ad ds.length cd]
  rw [alloc_size] at a2
  rw [alloc_size, alloc_size] at a3
  have HA1 := Hid.of (a1.up (((Up.refl _).alloc (.cells [.int .i64 p].toArray 3)).alloc (.cells [.slice ad ds.length cd].toArray 41)))
  have HA2 := Hid.of (a2.up ((Up.refl _).alloc (.cells [.slice ad ds.length cd].toArray 41)))
  have HA3 := Hid.of a3
  have HUa := Hid.of ((((Up.refl w).alloc (.cells [pv D].toArray 24)).alloc (.cells [.int .i64 p].toArray 3)).alloc (.cells [.slice ad ds.length cd].toArray 41))
  clear a1 a2 a3
  rw [her]
  clear her
  go_enter Tryz.func22, Tryz.ntmps22
  go_wp2_with fail
  generalize hWa : ((w.alloc (.cells [pv D].toArray 24)).alloc (.cells [.int .i64 p].toArray 3)).alloc (.cells [.slice ad ds.length cd].toArray 41) = Wa at *
  have HIa := Hid.of (HI.out.up HUa.out)
  refine (find_yes nm f Wa HIa.out HFM.out).mono ?_
  rintro e w2 ⟨rfl, u2⟩
  have HU2 := Hid.of (HUa.out.trans u2)
  have HA1b := Hid.of (HA1.out.up u2)
  have HA2b := Hid.of (HA2.out.up u2)
  have HA3b := Hid.of (HA3.out.up u2)
  clear u2 HA1 HA2 HA3 HUa HIa hWa
  dsimp only
  have HA4 := Hid.of (at_new w2 88 [pv f.b])
  have HU23 := Hid.of ((Up.refl w2).alloc (.cells [pv f.b].toArray 88))
  have hw2 : (w2.alloc (.cells [pv f.b].toArray 88)) = (w2.alloc (.cells #[pv f.b] 88)) := rfl
  have c1 := (HA1b.out.up HU23.out).cell (i := 0) rfl
  have c2 := (HA2b.out.up HU23.out).cell (i := 0) rfl
  have c3 := (HA3b.out.up HU23.out).cell (i := 0) rfl
  have c4 := HA4.out.cell (i := 0) rfl
  rw [hw2] at c1 c2 c3 c4 HA4 HU23
  go_wp2_with fail
  generalize w2.alloc (.cells #[pv f.b] 88) = W3 at *
  have HU3 := Hid.of (HU2.out.trans HU23.out)
  have HI3 := Hid.of (HI.out.up HU3.out)
  have hf3 := (HI3.out.fok f (mem_fls_nf HFM.out)).file
  rw [hvn] at hf3
  refine (writeError_gen D f.b f.nb.length ds.length s.room (usd s.nf) p an ad cn cd _ _ _ _ _ _ _ _ _ _ _ _ W3 HI3.out.disk hf3 (by omega) (by omega) (by omega) (by omega)).mono ?_
  rw [HER.out]
  rintro e w4 ⟨rfl, u4⟩
  have HU34 := Hid.of (HU23.out.trans u4)
  have HU4 := Hid.of (HU3.out.trans u4)
  have HI4 := Hid.of (HI.out.up HU4.out)
  have HB1 := Hid.of ((HA1b.out.up HU23.out).up u4)
  have HB2 := Hid.of ((HA2b.out.up HU23.out).up u4)
  have HB3 := Hid.of ((HA3b.out.up HU23.out).up u4)
  have HB4 := Hid.of (HA4.out.up u4)
  generalize w2.heap.size = bf at *
  clear u4 HI3 hf3 HA1b HA2b HA3b HA4 HU23 HU34 c1 c2 c3 c4 hw2 HU2 HU3
  dsimp only
  have c1 := HB1.out.cell (i := 0) rfl
  by_cases hz : er = 0
  · subst hz
    obtain ⟨p0, p1, p2⟩ := wrF_ok HER.out
    obtain ⟨pn, rfl⟩ : ∃ pn : Nat, p = pn := ⟨p.toNat, by omega⟩
    have HDw := Hid.of (HD.out.up HU4.out)
    have HAct := Hid.of (act2_Write1 D s.unt s.acts s.room (usd s.nf) (lsd (fls s)) s.trn s.flt (.map (some s.M)) (.map (some s.L)) s.vC s.vLo (pv (w.heap.size + 1 + 1)) (pv w.heap.size) (pv bf) (pv (w.heap.size + 1)) w4 (HI4.out.disk0 hd) hu hu1 (by have := HNum.out; omega)
      (fun w9 => ∃ s', Aft w w9 B D T s s' ∧ WrS s s' f pn ds) (fun w1 hd1 g1 => by
        obtain ⟨h4, f4⟩ := HI4.out.acs hd g1 hd1 (by omega)
        have dd1 : Sb w1 (.slice ad ds.length cd) ds := HDw.out.kept g1 (.inr HVD.out)
        refine Write1_walk (w.heap.size + 1 + 1) w.heap.size bf (w.heap.size + 1) D f.b pn (.slice ad ds.length cd) ds w1 _ (f4.at HB3.out (fun e => HB3.out.ne HI4.out.disk (by decide) e)) (f4.at HB1.out (fun e => HB1.out.ne HI4.out.disk (by decide) e)) (f4.at HB4.out (fun e => HB4.out.ne HI4.out.disk (by decide) e)) (f4.at HB2.out (fun e => HB2.out.ne HI4.out.disk (by decide) e)) dd1 (fun h0 => ?_) (fun h0 => ?_)
        · exact ⟨acS s, ⟨h4.more (by omega) hT, fun k hk => .inl hk, ((Fr.refl (own D s) w).up HU4.out).trans f4 (fun g hg => .inl (.inl hg))⟩, fun _ => rfl, fun _ h => absurd h0 h⟩
        · have hrm := hnum
          have hgr : (usd s.nf : Int) + gro f.nb.length pn ds.length ≤ 1099511627776 := by
            rcases Int.lt_or_le 0 (gro f.nb.length pn ds.length) with h1 | h1
            · have := p2 h1; omega
            · omega
          refine (write_dd nm.data.toList f pn (.slice ad ds.length cd) ds w1 h4 HFM.out dd1 h0 (by omega) (by omega) (by omega) hgr (by omega)).mono ?_
          rintro e w9 ⟨rfl, vn, vo, vk, ba, bk, q1, q2, q3⟩
          refine ⟨rfl, _, ⟨q1, ?_, (((Fr.refl (own D s) w).up HU4.out).trans f4 (fun g hg => .inl (.inl hg))).trans q3 (fun g hg => .inl hg)⟩, fun h => ?_, fun _ _ => ⟨vn, vo, vk, ba, bk, rfl⟩⟩
          · exact Nw.trans (s1 := acS s) (fun k hk => .inl hk) q2 (by have := HU4.out.size; have := f4.size; omega)
          · rcases h with h | h
            · exact absurd HER.out h
            · exact absurd h h0))
    clear HDw HD HI HI4 HB2 HB3 HB4 hvn
    go_wp2_with fail
    refine HAct.out.mono ?_
    rintro e w9 ⟨rfl, hP⟩
    have HP := Hid.of hP
    clear hP HAct
    dsimp only
    go_wp2
    go_ret
    exact ⟨rfl, HP.out⟩
  · have HAct := Hid.of (act_err2 D s.unt s.acts s.room (usd s.nf) (lsd (fls s)) s.trn s.flt (.map (some s.M)) (.map (some s.L)) s.vC s.vLo (.func (.func 57) #[] #[pv (w.heap.size + 1 + 1), pv w.heap.size, pv bf, pv (w.heap.size + 1)]) er w4 (HI4.out.disk0 hd) hu (by have := HNum.out; omega) hz)
    go_wp2_with fail
    refine HAct.out.mono ?_
    rintro e w9 ⟨rfl, hd9, g9⟩
    have HP := Hid.of (show ∃ s', Aft w w9 B D T s s' ∧ WrS s s' f p ds from
      ⟨acS s, err_aft HI4.out hd HU4.out g9 hd9 hT, fun _ => rfl, fun h => absurd (HER.out.symm.trans h) hz⟩)
    clear hd9 g9 HAct HD HI HI4 HB2 HB3 HB4 hvn
    dsimp only
    go_wp2
    go_ret
    exact ⟨rfl, HP.out⟩
set_option maxRecDepth 100000 in
set_option maxHeartbeats 1000000 in
theorem Read_yes {B D T : Nat} {s : DD} (nm : ByteArray) (f : FL) (w : World) (h : DOk w B D T s) (hfm : (nm.data.toList, f) ∈ s.nf) (hd : s.dead = false) :
    Calls Tryz.prog 29 #[pv D, .string nm] w fun e w' => ∃ v, e = .returned (.tuple #[v, .int .i64 0]) ∧ Ow w' w.heap.size v f.nb ∧ Up w w' := by
  have HI := Hid.of h
  have HF := Hid.of (find_yes nm f w h hfm)
  have HFM := Hid.of hfm
  have c2 := (h.disk0 hd).cell (i := 2) rfl
  clear h hfm
  go_enter Tryz.func29, Tryz.ntmps29
  go_wp2_with fail
  refine HF.out.mono ?_
  rintro e w2 ⟨rfl, u2⟩
  have HU2 := Hid.of u2
  have HI2 := Hid.of (HI.out.up u2)
  clear u2 HI
  dsimp only
  have c0 := (HI2.out.fok f (mem_fls_nf HFM.out)).file.cell (i := 0) rfl
  have hsz := HI2.out.sz f (mem_fls_nf HFM.out)
  go_wp2_with fail
  refine (Clone_walk f.vn f.nb w2 (Ow.sb (HI2.out.fok f (mem_fls_nf HFM.out)).now) (by omega)).mono ?_
  rintro e w3 ⟨v3, rfl, o3, u3⟩
  have HO3 := Hid.of (ow_base o3 HU2.out.size)
  have HU3 := Hid.of (HU2.out.trans u3)
  clear o3 u3 c2 c0
  dsimp only
  go_wp2
  go_ret2
  exact ⟨_, rfl, HO3.out, HU3.out⟩
set_option maxRecDepth 100000 in
theorem Used_gen {B D T : Nat} {s : DD} (w : World) (h : DOk w B D T s) (hd : s.dead = false) :
    Calls Tryz.prog 30 #[pv D] w fun e w' => e = .returned (.int .i64 (usd s.nf : Int)) ∧ w' = w := by
  have c2 := (h.disk0 hd).cell (i := 2) rfl
  have c1 := (h.disk0 hd).cell (i := 1) rfl
  clear h
  go_enter Tryz.func30, Tryz.ntmps30
  go_wp2
  go_ret
  exact ⟨rfl, rfl⟩
/-- sorted texts -/
def srt (xs : List (List UInt8)) : List (List UInt8) := xs.mergeSort fun x y => decide (x ≤ y)
theorem srt_pw (xs : List (List UInt8)) : (srt xs).Pairwise (fun x y => x ≤ y) := by
  have := List.pairwise_mergeSort (le := fun x y : List UInt8 => decide (x ≤ y)) (fun a b c h k => by simp only [decide_eq_true_eq] at h k ⊢; exact List.le_trans h k) (fun a b => by rcases List.le_total a b with h | h <;> simp [h]) xs
  unfold srt
  simpa using this
theorem srt_perm (xs : List (List UInt8)) : (srt xs).Perm xs := List.mergeSort_perm xs _
theorem srt_eq {xs ys : List (List UInt8)} (h : xs.Perm ys) : srt xs = srt ys :=
  List.Perm.eq_of_pairwise (le := fun x y => x ≤ y) (fun _ _ _ _ h k => List.le_antisymm h k) (srt_pw xs) (srt_pw ys) ((srt_perm xs).trans (h.trans (srt_perm ys).symm))
/-- the names that begin so, sorted -/
def lsN (nf : List (List UInt8 × FL)) (p : List UInt8) : List (List UInt8) := srt ((nf.map (·.1)).filter fun l => pfx p l)
theorem List_gen {B D T : Nat} {s : DD} (p : ByteArray) (w : World) (h : DOk w B D T s) (hd : s.dead = false) :
    Calls Tryz.prog 12 #[pv D, .string p] w fun e w' => ∃ v, e = .returned v ∧ SlS w' v (lsN s.nf p.data.toList) ∧ Up w w' := by
  have hn := h.num
  refine (List_walk D s.M s.nM s.dm p _ _ _ _ _ _ _ _ _ _ w (by omega) (h.disk0 hd) h.mnow).mono ?_
  rintro e w' ⟨v, xs, rfl, q1, q2, q3⟩
  refine ⟨v, rfl, ?_, q3⟩
  have hp : xs.Perm ((s.nf.map (·.1)).filter fun l => pfx p.data.toList l) := (List.perm_ext_iff_of_nodup q2.nd (List.Nodup.sublist List.filter_sublist h.nd)).2 (fun l => by
    rw [q2.mem l, List.mem_filter, h.isn.has l]
    simp)
  have e : xs.mergeSort (fun x y => decide (x ≤ y)) = lsN s.nf p.data.toList := srt_eq hp
  rw [← e]
  exact q1
end Go.Proofs.YtaibjeehjhlicaaGreatDoor
