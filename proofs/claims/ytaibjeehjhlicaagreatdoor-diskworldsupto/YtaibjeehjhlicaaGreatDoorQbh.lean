import Derived.Test.YtaibjeehjhlicaaGreatDoorQak
namespace Go.Proofs.YtaibjeehjhlicaaGreatDoor
open Go.RowKit Go.Shelf TextNum ModNum
theorem find_yes {B D T : Nat} {s : DD} (nm : ByteArray) (f : FL) (w : World) (h : DOk w B D T s) (hfm : (nm.data.toList, f) ∈ s.nf) : Calls Tryz.prog 44 #[pv D, .string nm] w fun e w' => e = .returned (.tuple #[pv f.b, .int .i64 0]) ∧ Up w w' := by
  have hh : Maps.has s.dm (kS nm) = true := (h.isn.has _).2 (List.mem_map.2 ⟨_, hfm, rfl⟩)
  have := find_gen D s.M s.nM f.b nm s.dm _ _ _ _ _ _ _ _ _ _ _ w h.ml h.disk h.mnow (fun z _ => h.isn.val _ hfm z)
  have e : fnd s.dm nm f.b = (pv f.b, 0) := by
    unfold fnd
    rw [if_neg (by rw [h.nms _ hfm]; decide), if_pos hh]
  rw [e] at this
  exact this
theorem find_no {B D T : Nat} {s : DD} (nm : ByteArray) (w : World) (h : DOk w B D T s) (hn : isNm nm.data.toList = true) (hl : nm.data.toList ∉ s.nf.map (·.1)) : Calls Tryz.prog 44 #[pv D, .string nm] w fun e w' => e = .returned (.tuple #[.pointer none, .int .i64 121]) ∧ Up w w' := by
  have hh : Maps.has s.dm (kS nm) = false := by
    cases hh : Maps.has s.dm (kS nm) with
    | false => rfl
    | true => exact absurd ((h.isn.has _).1 hh) hl
  have := find_gen D s.M s.nM 0 nm s.dm _ _ _ _ _ _ _ _ _ _ _ w h.ml h.disk h.mnow (fun z e => by rw [hh] at e; cases e)
  have e : fnd s.dm nm 0 = (.pointer none, 121) := by
    unfold fnd
    rw [if_neg (by rw [hn]; decide), if_neg (by rw [hh]; decide)]
  rw [e] at this
  exact this
theorem err_aft {w w4 w9 : World} {B D T : Nat} {s : DD} (h3 : DOk w4 B D T s) (hd : s.dead = false) (u3 : Up w w4) (g4 : w4.grownBy w9 (some D)) (hd4 : At w9 D 85 [.int .i64 (s.room : Int), .int .i64 (usd s.nf : Int), .bool false, .map (some s.M), .map (some s.L), s.vC, s.vLo, .int .i64 (lsd (fls s) : Int), .int .i64 (s.trn : Int), .int .i64 ((s.acts + 1 : Nat) : Int), .int .i64 ((s.unt - 1 : Nat) : Int), .int .i64 s.flt]) (hT : T + 2 ≤ 100000) : Aft w w9 B D T s (acS s) := by
  obtain ⟨h4, f4⟩ := h3.acs hd g4 hd4 (by omega)
  exact ⟨h4.more (by omega) hT, fun k hk => .inl hk, ((Fr.refl (own D s) w).up u3).trans f4 (fun g hg => .inl (.inl hg))⟩
set_option maxRecDepth 100000 in
set_option maxHeartbeats 4000000 in
theorem Remove_yes {B D T : Nat} {s : DD} (nm : ByteArray) (f : FL) (w : World) (h : DOk w B D T s) (hfm : (nm.data.toList, f) ∈ s.nf) (hd : s.dead = false) (hu : s.unt ≤ 4611686018427387904) (hu1 : s.unt ≠ 1) (hT : T + 2 ≤ 100000) :
    Calls Tryz.prog 61 #[pv D, .string nm] w fun e w' => e = .returned (.int .i64 0) ∧ ∃ b2 vC vLo, Aft w w' B D T s (rmS (acS s) nm b2 vC vLo) := by
  have HI := Hid.of h
  have HB1 := Hid.of ((at_new w 24 [pv D]).up ((Up.refl _).alloc (.cells [.string nm].toArray 9)))
  have hb2 := at_new (w.alloc (.cells [pv D].toArray 24)) 9 [.string nm]
  rw [alloc_size] at hb2
  have HB2 := Hid.of hb2
  have HU := Hid.of (((Up.refl w).alloc (.cells [pv D].toArray 24)).alloc (.cells [.string nm].toArray 9))
  have HF := fun w3 (h3 : DOk w3 B D T s) => Hid.of (find_yes nm f w3 h3 hfm)
  have HPost : ∀ w3, Up w w3 → At w3 w.heap.size 24 [pv D] → At w3 (w.heap.size + 1) 9 [.string nm] →
      Calls Tryz.prog 45 #[pv D, .int .i64 0, .func (.func 99) #[] #[pv w.heap.size, pv (w.heap.size + 1)]] w3 fun e w9 => e = .returned (.int .i64 0) ∧ ∃ b2 vC vLo, Aft w w9 B D T s (rmS (acS s) nm b2 vC vLo) := fun w3 u3 b1 b2 => by
    have h3 := HI.out.up u3
    have hnum := h3.num
    refine act2_Remove1 D s.unt s.acts s.room (usd s.nf) (lsd (fls s)) s.trn s.flt (.map (some s.M)) (.map (some s.L)) s.vC s.vLo _ _ w3 (h3.disk0 hd) hu hu1 (by omega) (fun w9 => ∃ b2 vC vLo, Aft w w9 B D T s (rmS (acS s) nm b2 vC vLo)) (fun w4 hd4 g4 => ?_)
    obtain ⟨h4, f4⟩ := h3.acs hd g4 hd4 (by omega)
    have b1' := f4.at b1 (fun e => b1.ne h3.disk (by decide) e)
    have b2' := f4.at b2 (fun e => b2.ne h3.disk (by decide) e)
    refine (remove1_dd (N := w.heap.size) nm f w.heap.size (w.heap.size + 1) w4 h4 (by have := u3.size; have := f4.size; omega) hfm b1' b2' (by omega) (by omega)).mono ?_
    rintro e w9 ⟨rfl, vC, vLo, q1, q2, q3⟩
    refine ⟨rfl, w.heap.size + 1, vC, vLo, q1, q2, ?_⟩
    exact (((Fr.refl (own D s) w).up u3).trans f4 (fun g hg => .inl (.inl hg))).trans q3 (fun g hg => .inl (Sn.own (s := acS s) hg))
  have HPo := Hid.of HPost
  clear HPost h hb2 hfm
  go_enter Tryz.func61, Tryz.ntmps61
  go_wp2_with fail
  generalize (w.alloc (.cells [pv D].toArray 24)).alloc (.cells [.string nm].toArray 9) = W2 at *
  refine (HF W2 (HI.out.up HU.out)).out.mono ?_
  rintro e w3 ⟨rfl, u3⟩
  have HU3 := Hid.of (HU.out.trans u3)
  have HB1' := Hid.of (HB1.out.up u3)
  have HB2' := Hid.of (HB2.out.up u3)
  clear u3 HF
  dsimp only
  have c1 := HB1'.out.cell (i := 0) rfl
  go_wp2_with fail
  refine (HPo.out w3 HU3.out HB1'.out HB2'.out).mono ?_
  rintro e w9 ⟨rfl, hP⟩
  have HR := Hid.of hP
  clear hP HPo
  dsimp only
  go_wp2
  go_ret
  exact ⟨rfl, HR.out⟩
set_option maxRecDepth 100000 in
set_option maxHeartbeats 4000000 in
theorem Remove_no {B D T : Nat} {s : DD} (nm : ByteArray) (w : World) (h : DOk w B D T s) (hn : isNm nm.data.toList = true) (hl : nm.data.toList ∉ s.nf.map (·.1)) (hd : s.dead = false) (hu : s.unt ≤ 4611686018427387904) (hT : T + 2 ≤ 100000) :
    Calls Tryz.prog 61 #[pv D, .string nm] w fun e w' => e = .returned (.int .i64 121) ∧ Aft w w' B D T s (acS s) := by
  have HI := Hid.of h
  have HB1 := Hid.of ((at_new w 24 [pv D]).up ((Up.refl _).alloc (.cells [.string nm].toArray 9)))
  have hb2 := at_new (w.alloc (.cells [pv D].toArray 24)) 9 [.string nm]
  rw [alloc_size] at hb2
  have HB2 := Hid.of hb2
  have HU := Hid.of (((Up.refl w).alloc (.cells [pv D].toArray 24)).alloc (.cells [.string nm].toArray 9))
  have HF := fun w3 (h3 : DOk w3 B D T s) => Hid.of (find_no nm w3 h3 hn hl)
  have HPost : ∀ w3, Up w w3 → ∀ fv,
      Calls Tryz.prog 45 #[pv D, .int .i64 121, fv] w3 fun e w9 => e = .returned (.int .i64 121) ∧ Aft w w9 B D T s (acS s) := fun w3 u3 fv => by
    have h3 := HI.out.up u3
    have hnum := h3.num
    refine (act_err2 D s.unt s.acts s.room (usd s.nf) (lsd (fls s)) s.trn s.flt (.map (some s.M)) (.map (some s.L)) s.vC s.vLo fv 121 w3 (h3.disk0 hd) hu (by omega) (by omega)).mono ?_
    rintro e w9 ⟨rfl, hd4, g4⟩
    exact ⟨rfl, err_aft h3 hd u3 g4 hd4 hT⟩
  have HPo := Hid.of HPost
  clear HPost h hb2 hl hn
  go_enter Tryz.func61, Tryz.ntmps61
  go_wp2_with fail
  generalize (w.alloc (.cells [pv D].toArray 24)).alloc (.cells [.string nm].toArray 9) = W2 at *
  refine (HF W2 (HI.out.up HU.out)).out.mono ?_
  rintro e w3 ⟨rfl, u3⟩
  have HU3 := Hid.of (HU.out.trans u3)
  have HB1' := Hid.of (HB1.out.up u3)
  have HB2' := Hid.of (HB2.out.up u3)
  clear u3 HF
  dsimp only
  have c1 := HB1'.out.cell (i := 0) rfl
  go_wp2_with fail
  refine (HPo.out w3 HU3.out _).mono ?_
  rintro e w9 ⟨rfl, hP⟩
  have HR := Hid.of hP
  clear hP HPo
  dsimp only
  go_wp2
  go_ret
  exact ⟨rfl, HR.out⟩
set_option maxRecDepth 100000 in
set_option maxHeartbeats 4000000 in
theorem Rename_yes {B D T : Nat} {s : DD} (nm tm : ByteArray) (f : FL) (w : World) (h : DOk w B D T s) (hfm : (nm.data.toList, f) ∈ s.nf) (ht : isNm tm.data.toList = true) (hd : s.dead = false) (hu : s.unt ≤ 4611686018427387904) (hu1 : s.unt ≠ 1) (hT : T + 2 ≤ 100000) :
    Calls Tryz.prog 25 #[pv D, .string nm, .string tm] w fun e w' => e = .returned (.int .i64 0) ∧ ∃ b1 b2 vC vLo, Aft w w' B D T s (rnS (acS s) nm tm f b1 b2 vC vLo) := by
  have HI := Hid.of h
  have a1 := at_new w 24 [pv D]
  have a2 := at_new (w.alloc (.cells [pv D].toArray 24)) 9 [.string nm]
  have a3 := at_new ((w.alloc (.cells [pv D].toArray 24)).alloc (.cells [.string nm].toArray 9)) 9 [.string tm]
  rw [alloc_size] at a2
  rw [alloc_size, alloc_size] at a3
  have HB1 := Hid.of (a1.up (((Up.refl _).alloc (.cells [.string nm].toArray 9)).alloc (.cells [.string tm].toArray 9)))
  have HB2 := Hid.of (a2.up ((Up.refl _).alloc (.cells [.string tm].toArray 9)))
  have HB3 := Hid.of a3
  have HU := Hid.of ((((Up.refl w).alloc (.cells [pv D].toArray 24)).alloc (.cells [.string nm].toArray 9)).alloc (.cells [.string tm].toArray 9))
  clear a1 a2 a3
  have HF := fun w3 (h3 : DOk w3 B D T s) => Hid.of (find_yes nm f w3 h3 hfm)
  have HPost : ∀ w3, Up w w3 → At w3 w.heap.size 24 [pv D] → At w3 (w.heap.size + 1) 9 [.string nm] → At w3 (w.heap.size + 1 + 1) 9 [.string tm] →
      Calls Tryz.prog 45 #[pv D, .int .i64 0, .func (.func 59) #[] #[pv (w.heap.size + 1), pv (w.heap.size + 1 + 1), pv w.heap.size]] w3 fun e w9 => e = .returned (.int .i64 0) ∧ ∃ b1 b2 vC vLo, Aft w w9 B D T s (rnS (acS s) nm tm f b1 b2 vC vLo) := fun w3 u3 b1 b2 b3 => by
    have h3 := HI.out.up u3
    have hnum := h3.num
    refine act2_Rename1 D s.unt s.acts s.room (usd s.nf) (lsd (fls s)) s.trn s.flt (.map (some s.M)) (.map (some s.L)) s.vC s.vLo _ _ _ w3 (h3.disk0 hd) hu hu1 (by omega) (fun w9 => ∃ b1 b2 vC vLo, Aft w w9 B D T s (rnS (acS s) nm tm f b1 b2 vC vLo)) (fun w4 hd4 g4 => ?_)
    obtain ⟨h4, f4⟩ := h3.acs hd g4 hd4 (by omega)
    have b1' := f4.at b1 (fun e => b1.ne h3.disk (by decide) e)
    have b2' := f4.at b2 (fun e => b2.ne h3.disk (by decide) e)
    have b3' := f4.at b3 (fun e => b3.ne h3.disk (by decide) e)
    refine (rename1_dd (N := w.heap.size) nm tm f (w.heap.size + 1) (w.heap.size + 1 + 1) w.heap.size w4 h4 (by have := u3.size; have := f4.size; omega) hfm ht b2' b3' b1' (by omega) (by omega) (by omega)).mono ?_
    rintro e w9 ⟨rfl, vC, vLo, q1, q2, q3⟩
    refine ⟨rfl, w.heap.size + 1, w.heap.size + 1 + 1, vC, vLo, q1, q2, ?_⟩
    exact (((Fr.refl (own D s) w).up u3).trans f4 (fun g hg => .inl (.inl hg))).trans q3 (fun g hg => .inl (Sn.own (s := acS s) hg))
  have HPo := Hid.of HPost
  have HNE := Hid.of (show nmE tm.data.toList = 0 by unfold nmE; rw [ht]; rfl)
  clear HPost h ht hfm
  go_enter Tryz.func25, Tryz.ntmps25
  have c3 := HB3.out.cell (i := 0) rfl
  go_wp2_with fail
  generalize ((w.alloc (.cells [pv D].toArray 24)).alloc (.cells [.string nm].toArray 9)).alloc (.cells [.string tm].toArray 9) = W2 at *
  have hNe := nameError_gen tm W2 (HI.out.up HU.out).ml
  rw [HNE.out] at hNe
  refine hNe.mono ?_
  clear hNe
  rintro e w2 ⟨rfl, u2⟩
  have HU2 := Hid.of (HU.out.trans u2)
  have HB1a := Hid.of (HB1.out.up u2)
  have HB2a := Hid.of (HB2.out.up u2)
  have HB3a := Hid.of (HB3.out.up u2)
  clear u2 c3
  dsimp only
  have c1 := HB1a.out.cell (i := 0) rfl
  have c2 := HB2a.out.cell (i := 0) rfl
  go_wp2_with fail
  refine (HF w2 (HI.out.up HU2.out)).out.mono ?_
  rintro e w3 ⟨rfl, u3⟩
  have HU3 := Hid.of (HU2.out.trans u3)
  have HB1' := Hid.of (HB1a.out.up u3)
  have HB2' := Hid.of (HB2a.out.up u3)
  have HB3' := Hid.of (HB3a.out.up u3)
  clear u3 HF c1 c2
  dsimp only
  have c1 := HB1'.out.cell (i := 0) rfl
  go_wp2_with fail
  refine (HPo.out w3 HU3.out HB1'.out HB2'.out HB3'.out).mono ?_
  rintro e w9 ⟨rfl, hP⟩
  have HR := Hid.of hP
  clear hP HPo
  dsimp only
  go_wp2
  go_ret
  exact ⟨rfl, HR.out⟩
set_option maxRecDepth 100000 in
set_option maxHeartbeats 4000000 in
theorem Rename_no {B D T : Nat} {s : DD} (nm tm : ByteArray) (w : World) (h : DOk w B D T s) (hn : isNm nm.data.toList = true) (hl : nm.data.toList ∉ s.nf.map (·.1)) (ht : isNm tm.data.toList = true) (hd : s.dead = false) (hu : s.unt ≤ 4611686018427387904) (hT : T + 2 ≤ 100000) :
    Calls Tryz.prog 25 #[pv D, .string nm, .string tm] w fun e w' => e = .returned (.int .i64 121) ∧ Aft w w' B D T s (acS s) := by
  have HI := Hid.of h
  have a1 := at_new w 24 [pv D]
  have a2 := at_new (w.alloc (.cells [pv D].toArray 24)) 9 [.string nm]
  have a3 := at_new ((w.alloc (.cells [pv D].toArray 24)).alloc (.cells [.string nm].toArray 9)) 9 [.string tm]
  rw [alloc_size] at a2
  rw [alloc_size, alloc_size] at a3
  have HB1 := Hid.of (a1.up (((Up.refl _).alloc (.cells [.string nm].toArray 9)).alloc (.cells [.string tm].toArray 9)))
  have HB2 := Hid.of (a2.up ((Up.refl _).alloc (.cells [.string tm].toArray 9)))
  have HB3 := Hid.of a3
  have HU := Hid.of ((((Up.refl w).alloc (.cells [pv D].toArray 24)).alloc (.cells [.string nm].toArray 9)).alloc (.cells [.string tm].toArray 9))
  clear a1 a2 a3
  have HF := fun w3 (h3 : DOk w3 B D T s) => Hid.of (find_no nm w3 h3 hn hl)
  have HPost : ∀ w3, Up w w3 → ∀ fv,
      Calls Tryz.prog 45 #[pv D, .int .i64 121, fv] w3 fun e w9 => e = .returned (.int .i64 121) ∧ Aft w w9 B D T s (acS s) := fun w3 u3 fv => by
    have h3 := HI.out.up u3
    have hnum := h3.num
    refine (act_err2 D s.unt s.acts s.room (usd s.nf) (lsd (fls s)) s.trn s.flt (.map (some s.M)) (.map (some s.L)) s.vC s.vLo fv 121 w3 (h3.disk0 hd) hu (by omega) (by omega)).mono ?_
    rintro e w9 ⟨rfl, hd4, g4⟩
    exact ⟨rfl, err_aft h3 hd u3 g4 hd4 hT⟩
  have HPo := Hid.of HPost
  have HNE := Hid.of (show nmE tm.data.toList = 0 by unfold nmE; rw [ht]; rfl)
  clear HPost h ht hl hn
  go_enter Tryz.func25, Tryz.ntmps25
  have c3 := HB3.out.cell (i := 0) rfl
  go_wp2_with fail
  generalize ((w.alloc (.cells [pv D].toArray 24)).alloc (.cells [.string nm].toArray 9)).alloc (.cells [.string tm].toArray 9) = W2 at *
  have hNe := nameError_gen tm W2 (HI.out.up HU.out).ml
  rw [HNE.out] at hNe
  refine hNe.mono ?_
  clear hNe
  rintro e w2 ⟨rfl, u2⟩
  have HU2 := Hid.of (HU.out.trans u2)
  have HB1a := Hid.of (HB1.out.up u2)
  have HB2a := Hid.of (HB2.out.up u2)
  have HB3a := Hid.of (HB3.out.up u2)
  clear u2 c3
  dsimp only
  have c1 := HB1a.out.cell (i := 0) rfl
  have c2 := HB2a.out.cell (i := 0) rfl
  go_wp2_with fail
  refine (HF w2 (HI.out.up HU2.out)).out.mono ?_
  rintro e w3 ⟨rfl, u3⟩
  have HU3 := Hid.of (HU2.out.trans u3)
  have HB1' := Hid.of (HB1a.out.up u3)
  have HB2' := Hid.of (HB2a.out.up u3)
  have HB3' := Hid.of (HB3a.out.up u3)
  clear u3 HF c1 c2
  dsimp only
  have c1 := HB1'.out.cell (i := 0) rfl
  go_wp2_with fail
  refine (HPo.out w3 HU3.out _).mono ?_
  rintro e w9 ⟨rfl, hP⟩
  have HR := Hid.of hP
  clear hP HPo
  dsimp only
  go_wp2
  go_ret
  exact ⟨rfl, HR.out⟩
end Go.Proofs.YtaibjeehjhlicaaGreatDoor
