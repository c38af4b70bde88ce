import Derived.Test.YtaibjeehjhlicaaGreatDoorQbs
namespace Go.Proofs.YtaibjeehjhlicaaGreatDoor
open Go.RowKit Go.Shelf TextNum ModNum
theorem own3 (nm to : ByteArray) (p : Int) (m : Nat) (s : DD) : ownE 3 nm to p m s = nmE nm.data.toList := by
  unfold ownE; rw [if_pos rfl]
theorem own8 (nm to : ByteArray) (p : Int) (m : Nat) (s : DD) : ownE 8 nm to p m s = fnE s nm.data.toList := by
  unfold ownE; rw [if_neg (by decide), if_neg (by decide), if_neg (by decide), if_neg (by decide)]
theorem own7 (nm to : ByteArray) (p : Int) (m : Nat) (s : DD) : ownE 7 nm to p m s = if nmE to.data.toList = 0 then fnE s nm.data.toList else 120 := by
  unfold ownE; rw [if_neg (by decide), if_neg (by decide), if_neg (by decide), if_pos rfl]
theorem nmE_two (l : List UInt8) : nmE l = 0 ∨ nmE l = 120 := by unfold nmE; split <;> simp
theorem eff3 {nm to : ByteArray} {p : Int} {ds : List UInt8} {s s' : DD} (h : ∃ F bp b2 vC vLo, s' = crS s nm F bp b2 vC vLo) : Eff 3 nm to p ds s s' := by
  unfold Eff; rw [if_pos rfl]; exact h
theorem eff7 {nm to : ByteArray} {p : Int} {ds : List UInt8} {s s' : DD} (h : ∃ f b1 b2 vC vLo, (nm.data.toList, f) ∈ s.nf ∧ s' = rnS s nm to f b1 b2 vC vLo) : Eff 7 nm to p ds s s' := by
  unfold Eff; rw [if_neg (by decide), if_neg (by decide), if_neg (by decide), if_neg (by decide), if_pos rfl]; exact h
theorem eff8 {nm to : ByteArray} {p : Int} {ds : List UInt8} {s s' : DD} (h : ∃ f b2 vC vLo, (nm.data.toList, f) ∈ s.nf ∧ s' = rmS s nm b2 vC vLo) : Eff 8 nm to p ds s s' := by
  unfold Eff; rw [if_neg (by decide), if_neg (by decide), if_neg (by decide), if_neg (by decide), if_neg (by decide)]; exact h
set_option maxRecDepth 100000 in
set_option maxHeartbeats 4000000 in
theorem Create_all {B D T : Nat} {s : DD} (nm to : ByteArray) (p : Int) (ds : List UInt8) (w : World) (h : DOk w B D T s) (hu : s.unt ≤ 9223372036854775807) (hT : T + 3 ≤ 100000) :
    Calls Tryz.prog 21 #[pv D, .string nm] w fun e w9 => e = .returned (.int .i64 (erE 3 nm to p ds.length s)) ∧ ∃ s', AftX w w9 B D T s s' ∧ Stp 3 nm to p ds s s' := by
  have HI := Hid.of h
  have HB1 := Hid.of ((at_new w 24 [pv D]).up ((Up.refl _).alloc (.cells [.string nm].toArray 9)))
  have hb2 := at_new (w.alloc (.cells [pv D].toArray 24)) 9 [.string nm]
  rw [alloc_size] at hb2
  have HB2 := Hid.of hb2
  have HU := Hid.of (((Up.refl w).alloc (.cells [pv D].toArray 24)).alloc (.cells [.string nm].toArray 9))
  obtain ⟨er, her⟩ : ∃ er : Int, erE 3 nm to p ds.length s = er := ⟨_, rfl⟩
  obtain ⟨ne, hne⟩ : ∃ ne : Int, nmE nm.data.toList = ne := ⟨_, rfl⟩
  have HPost : ∀ w3, Up w w3 → At w3 w.heap.size 24 [pv D] → At w3 (w.heap.size + 1) 9 [.string nm] →
      Calls Tryz.prog 45 #[pv D, .int .i64 ne, .func (.func 52) #[] #[pv w.heap.size, pv (w.heap.size + 1)]] w3 fun e w9 => e = .returned (.int .i64 er) ∧ ∃ s', AftX w w9 B D T s s' ∧ Stp 3 nm to p ds s s' := fun w3 u3 b1 b2 => by
    rw [← her, ← hne, ← own3 nm to p ds.length s]
    refine actX_Create 3 nm to p ds _ _ w w3 (HI.out.up u3) u3 hu hT (fun hd ho w4 h4 f4 g4 => ?_)
    have b1' := f4.at b1 (fun e => b1.ne (HI.out.up u3).disk (by decide) e)
    have b2' := f4.at b2 (fun e => b2.ne (HI.out.up u3).disk (by decide) e)
    rw [own3] at ho
    refine (create1_dd (N := w.heap.size) nm w.heap.size (w.heap.size + 1) w4 h4 (by have := u3.size; have := f4.size; omega) (nmE_ok ho) b1' b2' (by omega) (by omega)).mono ?_
    rintro e w9 ⟨rfl, F, bp, vC, vLo, q1, q2, q3, _⟩
    refine ⟨rfl, _, ⟨q1, q2, ?_⟩, eff3 ⟨F, bp, w.heap.size + 1, vC, vLo, rfl⟩⟩
    exact (((Fr.refl (own D s) w).up u3).trans f4 (fun g hg => .inl (.inl hg))).trans q3 (fun g hg => .inl (Sn.own (s := acS s) hg))
  rw [her]
  have HPo := Hid.of HPost
  have HG := Hid.of h.ml
  have HNE := Hid.of hne
  clear HPost h hb2 hne her
  go_enter Tryz.func21, Tryz.ntmps21
  go_wp2
  generalize (w.alloc (.cells [pv D].toArray 24)).alloc (.cells [.string nm].toArray 9) = W2 at *
  have hNe := nameError_gen nm W2.drew (HG.out.up HU.out.drew)
  rw [HNE.out] at hNe
  have HNe := Hid.of hNe
  clear hNe
  have c1 := HB1.out.cell (i := 0) rfl
  have c2 := HB2.out.cell (i := 0) rfl
  apply wp_som (fun _ _ u => ∃ s', AftX w u B D T s s' ∧ Stp 3 nm to p ds s s')
  case h =>
    go_region_with (first | (go_at_call 51; refine HNe.out.mono ?_; rintro e w3 ⟨rfl, u3⟩; have hu3 := (Up.refl W2).drew.trans u3; have c1b := (HB1.out.up hu3).cell (i := 0) rfl; have c2b := (HB2.out.up hu3).cell (i := 0) rfl; have HX3 := Hid.of hu3; clear u3 hu3) | (go_at_call 45; refine (HPo.out _ (HU.out.trans HX3.out) (HB1.out.up HX3.out) (HB2.out.up HX3.out)).mono ?_; rintro e w9 ⟨rfl, hP⟩; have HP9 := Hid.of hP; clear hP; obtain ⟨x0, hx0⟩ : ∃ x : Option Addr, x = none := ⟨_, rfl⟩; obtain ⟨n0, hn0⟩ : ∃ n : Nat, n = 0 := ⟨_, rfl⟩))
    all_goals exact ⟨x0, n0, _, HP9.out, rfl, rfl⟩
  intro _ _ w9 hR
  have HR := Hid.of hR
  clear hR
  go_wp2
  go_ret
  exact ⟨rfl, HR.out⟩
set_option maxRecDepth 100000 in
set_option maxHeartbeats 4000000 in
theorem Remove_yes3 {B D T : Nat} {s : DD} (nm to : ByteArray) (p : Int) (ds : List UInt8) (w : World) (h : DOk w B D T s) (hu : s.unt ≤ 9223372036854775807) (hT : T + 3 ≤ 100000) (f : FL) (hfm : (nm.data.toList, f) ∈ s.nf) :
    Calls Tryz.prog 61 #[pv D, .string nm] w fun e w9 => e = .returned (.int .i64 (erE 8 nm to p ds.length s)) ∧ ∃ s', AftX w w9 B D T s s' ∧ Stp 8 nm to p ds s s' := by
  have HI := Hid.of h
  have HB1 := Hid.of ((at_new w 24 [pv D]).up ((Up.refl _).alloc (.cells [.string nm].toArray 9)))
  have hb2 := at_new (w.alloc (.cells [pv D].toArray 24)) 9 [.string nm]
  rw [alloc_size] at hb2
  have HB2 := Hid.of hb2
  have HU := Hid.of (((Up.refl w).alloc (.cells [pv D].toArray 24)).alloc (.cells [.string nm].toArray 9))
  obtain ⟨er, her⟩ : ∃ er : Int, erE 8 nm to p ds.length s = er := ⟨_, rfl⟩
  have ho8 : ownE 8 nm to p ds.length s = 0 := (own8 nm to p ds.length s).trans (fnE_of h hfm)
  have HF := fun w3 (h3 : DOk w3 B D T s) => Hid.of (find_yes nm f w3 h3 hfm)
  have HPost : ∀ w3, Up w w3 → At w3 w.heap.size 24 [pv D] → At w3 (w.heap.size + 1) 9 [.string nm] →
      Calls Tryz.prog 45 #[pv D, .int .i64 0, .func (.func 99) #[] #[pv w.heap.size, pv (w.heap.size + 1)]] w3 fun e w9 => e = .returned (.int .i64 er) ∧ ∃ s', AftX w w9 B D T s s' ∧ Stp 8 nm to p ds s s' := fun w3 u3 b1 b2 => by
    rw [← her, ← ho8]
    refine actX_Remove 8 nm to p ds _ _ w w3 (HI.out.up u3) u3 hu hT (fun hd ho w4 h4 f4 g4 => ?_)
    have b1' := f4.at b1 (fun e => b1.ne (HI.out.up u3).disk (by decide) e)
    have b2' := f4.at b2 (fun e => b2.ne (HI.out.up u3).disk (by decide) e)
    refine (remove1_dd (N := w.heap.size) nm f w.heap.size (w.heap.size + 1) w4 h4 (by have := u3.size; have := f4.size; omega) hfm b1' b2' (by omega) (by omega)).mono ?_
    rintro e w9 ⟨rfl, vC, vLo, q1, q2, q3⟩
    refine ⟨rfl, _, ⟨q1, q2, ?_⟩, eff8 ⟨f, w.heap.size + 1, vC, vLo, hfm, rfl⟩⟩
    exact (((Fr.refl (own D s) w).up u3).trans f4 (fun g hg => .inl (.inl hg))).trans q3 (fun g hg => .inl (Sn.own (s := acS s) hg))
  rw [her]
  have HPo := Hid.of HPost
  clear HPost h hb2 her ho8 hfm
  go_enter Tryz.func61, Tryz.ntmps61
  go_wp2_with fail
  generalize (w.alloc (.cells [pv D].toArray 24)).alloc (.cells [.string nm].toArray 9) = W2 at *
  refine (HF W2 (HI.out.up HU.out)).out.mono ?_
  rintro e w3 ⟨rfl, u3⟩
  have HU3 := Hid.of (HU.out.trans u3)
  have HB1' := Hid.of (HB1.out.up u3)
  have HB2' := Hid.of (HB2.out.up u3)
  clear u3 HF
  dsimp only
  have c1 := HB1'.out.cell (i := 0) rfl
  go_wp2_with fail
  refine (HPo.out w3 HU3.out HB1'.out HB2'.out).mono ?_
  rintro e w9 ⟨rfl, hP⟩
  have HR := Hid.of hP
  clear hP HPo
  dsimp only
  go_wp2
  go_ret
  exact ⟨rfl, HR.out⟩
set_option maxRecDepth 100000 in
set_option maxHeartbeats 4000000 in
theorem Remove_no3 {B D T : Nat} {s : DD} (nm to : ByteArray) (p : Int) (ds : List UInt8) (w : World) (h : DOk w B D T s) (hu : s.unt ≤ 9223372036854775807) (hT : T + 3 ≤ 100000) (hfe : fnE s nm.data.toList ≠ 0) :
    Calls Tryz.prog 61 #[pv D, .string nm] w fun e w9 => e = .returned (.int .i64 (erE 8 nm to p ds.length s)) ∧ ∃ s', AftX w w9 B D T s s' ∧ Stp 8 nm to p ds s s' := by
  have HI := Hid.of h
  have HB1 := Hid.of ((at_new w 24 [pv D]).up ((Up.refl _).alloc (.cells [.string nm].toArray 9)))
  have hb2 := at_new (w.alloc (.cells [pv D].toArray 24)) 9 [.string nm]
  rw [alloc_size] at hb2
  have HB2 := Hid.of hb2
  have HU := Hid.of (((Up.refl w).alloc (.cells [pv D].toArray 24)).alloc (.cells [.string nm].toArray 9))
  obtain ⟨er, her⟩ : ∃ er : Int, erE 8 nm to p ds.length s = er := ⟨_, rfl⟩
  obtain ⟨oe, hoe⟩ : ∃ oe : Int, fnE s nm.data.toList = oe := ⟨_, rfl⟩
  have hFe : ∀ w3 (h3 : DOk w3 B D T s), Calls Tryz.prog 44 #[pv D, .string nm] w3 fun e w' => e = .returned (.tuple #[.pointer none, .int .i64 oe]) ∧ Up w3 w' := fun w3 h3 => by
    rw [← hoe]; exact find_err nm w3 h3 hfe
  have ho8 : ownE 8 nm to p ds.length s = oe := (own8 nm to p ds.length s).trans hoe
  have HF := fun w3 (h3 : DOk w3 B D T s) => Hid.of (hFe w3 h3)
  have HPost : ∀ w3, Up w w3 → At w3 w.heap.size 24 [pv D] → At w3 (w.heap.size + 1) 9 [.string nm] →
      Calls Tryz.prog 45 #[pv D, .int .i64 oe, .func (.func 99) #[] #[pv w.heap.size, pv (w.heap.size + 1)]] w3 fun e w9 => e = .returned (.int .i64 er) ∧ ∃ s', AftX w w9 B D T s s' ∧ Stp 8 nm to p ds s s' := fun w3 u3 b1 b2 => by
    rw [← her, ← ho8]
    refine actX_Remove 8 nm to p ds _ _ w w3 (HI.out.up u3) u3 hu hT (fun hd ho w4 h4 f4 g4 => ?_)
    exact absurd (ho8.symm.trans ho) (fun e => hfe (hoe.trans e))
  rw [her]
  have HPo := Hid.of HPost
  clear HPost h hb2 her ho8 hFe hoe hfe
  go_enter Tryz.func61, Tryz.ntmps61
  go_wp2_with fail
  generalize (w.alloc (.cells [pv D].toArray 24)).alloc (.cells [.string nm].toArray 9) = W2 at *
  refine (HF W2 (HI.out.up HU.out)).out.mono ?_
  rintro e w3 ⟨rfl, u3⟩
  have HU3 := Hid.of (HU.out.trans u3)
  have HB1' := Hid.of (HB1.out.up u3)
  have HB2' := Hid.of (HB2.out.up u3)
  clear u3 HF
  dsimp only
  have c1 := HB1'.out.cell (i := 0) rfl
  go_wp2_with fail
  refine (HPo.out w3 HU3.out HB1'.out HB2'.out).mono ?_
  rintro e w9 ⟨rfl, hP⟩
  have HR := Hid.of hP
  clear hP HPo
  dsimp only
  go_wp2
  go_ret
  exact ⟨rfl, HR.out⟩
theorem Remove_all {B D T : Nat} {s : DD} (nm to : ByteArray) (p : Int) (ds : List UInt8) (w : World) (h : DOk w B D T s) (hu : s.unt ≤ 9223372036854775807) (hT : T + 3 ≤ 100000) :
    Calls Tryz.prog 61 #[pv D, .string nm] w fun e w9 => e = .returned (.int .i64 (erE 8 nm to p ds.length s)) ∧ ∃ s', AftX w w9 B D T s s' ∧ Stp 8 nm to p ds s s' := by
  by_cases hf : fnE s nm.data.toList = 0
  · obtain ⟨f, hfm⟩ := fnE_get hf
    exact Remove_yes3 nm to p ds w h hu hT f hfm
  · exact Remove_no3 nm to p ds w h hu hT hf
set_option maxRecDepth 100000 in
set_option maxHeartbeats 4000000 in
theorem Rename_yes3 {B D T : Nat} {s : DD} (nm to : ByteArray) (p : Int) (ds : List UInt8) (w : World) (h : DOk w B D T s) (hu : s.unt ≤ 9223372036854775807) (hT : T + 3 ≤ 100000) (f : FL) (hfm : (nm.data.toList, f) ∈ s.nf) (ht : nmE to.data.toList = 0) :
    Calls Tryz.prog 25 #[pv D, .string nm, .string to] w fun e w9 => e = .returned (.int .i64 (erE 7 nm to p ds.length s)) ∧ ∃ s', AftX w w9 B D T s s' ∧ Stp 7 nm to p ds s s' := by
  have HI := Hid.of h
  have a1 := at_new w 24 [pv D]
  have a2 := at_new (w.alloc (.cells [pv D].toArray 24)) 9 [.string nm]
  have a3 := at_new ((w.alloc (.cells [pv D].toArray 24)).alloc (.cells [.string nm].toArray 9)) 9 [.string to]
  rw [alloc_size] at a2
  rw [alloc_size, alloc_size] at a3
  have HB1 := Hid.of (a1.up (((Up.refl _).alloc (.cells [.string nm].toArray 9)).alloc (.cells [.string to].toArray 9)))
  have HB2 := Hid.of (a2.up ((Up.refl _).alloc (.cells [.string to].toArray 9)))
  have HB3 := Hid.of a3
  have HU := Hid.of ((((Up.refl w).alloc (.cells [pv D].toArray 24)).alloc (.cells [.string nm].toArray 9)).alloc (.cells [.string to].toArray 9))
  clear a1 a2 a3
  obtain ⟨er, her⟩ : ∃ er : Int, erE 7 nm to p ds.length s = er := ⟨_, rfl⟩
  have ho7 : ownE 7 nm to p ds.length s = 0 := by rw [own7, if_pos ht]; exact fnE_of h hfm
  have HF := fun w3 (h3 : DOk w3 B D T s) => Hid.of (find_yes nm f w3 h3 hfm)
  have HPost : ∀ w3, Up w w3 → At w3 w.heap.size 24 [pv D] → At w3 (w.heap.size + 1) 9 [.string nm] → At w3 (w.heap.size + 1 + 1) 9 [.string to] →
      Calls Tryz.prog 45 #[pv D, .int .i64 0, .func (.func 59) #[] #[pv (w.heap.size + 1), pv (w.heap.size + 1 + 1), pv w.heap.size]] w3 fun e w9 => e = .returned (.int .i64 er) ∧ ∃ s', AftX w w9 B D T s s' ∧ Stp 7 nm to p ds s s' := fun w3 u3 b1 b2 b3 => by
    rw [← her, ← ho7]
    refine actX_Rename 7 nm to p ds _ _ _ w w3 (HI.out.up u3) u3 hu hT (fun hd ho w4 h4 f4 g4 => ?_)
    have b1' := f4.at b1 (fun e => b1.ne (HI.out.up u3).disk (by decide) e)
    have b2' := f4.at b2 (fun e => b2.ne (HI.out.up u3).disk (by decide) e)
    have b3' := f4.at b3 (fun e => b3.ne (HI.out.up u3).disk (by decide) e)
    refine (rename1_dd (N := w.heap.size) nm to f (w.heap.size + 1) (w.heap.size + 1 + 1) w.heap.size w4 h4 (by have := u3.size; have := f4.size; omega) hfm (nmE_ok ht) b2' b3' b1' (by omega) (by omega) (by omega)).mono ?_
    rintro e w9 ⟨rfl, vC, vLo, q1, q2, q3⟩
    refine ⟨rfl, _, ⟨q1, q2, ?_⟩, eff7 ⟨f, w.heap.size + 1, w.heap.size + 1 + 1, vC, vLo, hfm, rfl⟩⟩
    exact (((Fr.refl (own D s) w).up u3).trans f4 (fun g hg => .inl (.inl hg))).trans q3 (fun g hg => .inl (Sn.own (s := acS s) hg))
  rw [her]
  have HPo := Hid.of HPost
  have HNE := Hid.of ht
  clear HPost h ht her ho7 hfm
  go_enter Tryz.func25, Tryz.ntmps25
  have c3 := HB3.out.cell (i := 0) rfl
  go_wp2_with fail
  generalize ((w.alloc (.cells [pv D].toArray 24)).alloc (.cells [.string nm].toArray 9)).alloc (.cells [.string to].toArray 9) = W2 at *
  have hNe := nameError_gen to W2 (HI.out.up HU.out).ml
  rw [HNE.out] at hNe
  refine hNe.mono ?_
  clear hNe
  rintro e w2 ⟨rfl, u2⟩
  have HU2 := Hid.of (HU.out.trans u2)
  have HB1a := Hid.of (HB1.out.up u2)
  have HB2a := Hid.of (HB2.out.up u2)
  have HB3a := Hid.of (HB3.out.up u2)
  clear u2 c3
  dsimp only
  have c1 := HB1a.out.cell (i := 0) rfl
  have c2 := HB2a.out.cell (i := 0) rfl
  go_wp2_with fail
  refine (HF w2 (HI.out.up HU2.out)).out.mono ?_
  rintro e w3 ⟨rfl, u3⟩
  have HU3 := Hid.of (HU2.out.trans u3)
  have HB1' := Hid.of (HB1a.out.up u3)
  have HB2' := Hid.of (HB2a.out.up u3)
  have HB3' := Hid.of (HB3a.out.up u3)
  clear u3 HF c1 c2
  dsimp only
  have c1 := HB1'.out.cell (i := 0) rfl
  go_wp2_with fail
  refine (HPo.out w3 HU3.out HB1'.out HB2'.out HB3'.out).mono ?_
  rintro e w9 ⟨rfl, hP⟩
  have HR := Hid.of hP
  clear hP HPo
  dsimp only
  go_wp2
  go_ret
  exact ⟨rfl, HR.out⟩
set_option maxRecDepth 100000 in
set_option maxHeartbeats 4000000 in
theorem Rename_no3 {B D T : Nat} {s : DD} (nm to : ByteArray) (p : Int) (ds : List UInt8) (w : World) (h : DOk w B D T s) (hu : s.unt ≤ 9223372036854775807) (hT : T + 3 ≤ 100000) (hfe : fnE s nm.data.toList ≠ 0) (ht : nmE to.data.toList = 0) :
    Calls Tryz.prog 25 #[pv D, .string nm, .string to] w fun e w9 => e = .returned (.int .i64 (erE 7 nm to p ds.length s)) ∧ ∃ s', AftX w w9 B D T s s' ∧ Stp 7 nm to p ds s s' := by
  have HI := Hid.of h
  have a1 := at_new w 24 [pv D]
  have a2 := at_new (w.alloc (.cells [pv D].toArray 24)) 9 [.string nm]
  have a3 := at_new ((w.alloc (.cells [pv D].toArray 24)).alloc (.cells [.string nm].toArray 9)) 9 [.string to]
  rw [alloc_size] at a2
  rw [alloc_size, alloc_size] at a3
  have HB1 := Hid.of (a1.up (((Up.refl _).alloc (.cells [.string nm].toArray 9)).alloc (.cells [.string to].toArray 9)))
  have HB2 := Hid.of (a2.up ((Up.refl _).alloc (.cells [.string to].toArray 9)))
  have HB3 := Hid.of a3
  have HU := Hid.of ((((Up.refl w).alloc (.cells [pv D].toArray 24)).alloc (.cells [.string nm].toArray 9)).alloc (.cells [.string to].toArray 9))
  clear a1 a2 a3
  obtain ⟨er, her⟩ : ∃ er : Int, erE 7 nm to p ds.length s = er := ⟨_, rfl⟩
  obtain ⟨oe, hoe⟩ : ∃ oe : Int, fnE s nm.data.toList = oe := ⟨_, rfl⟩
  have hoz : (oe == 0) = false := by rw [beq_eq_false_iff_ne]; exact fun e => hfe (hoe.trans e)
  have hFe : ∀ w3 (h3 : DOk w3 B D T s), Calls Tryz.prog 44 #[pv D, .string nm] w3 fun e w' => e = .returned (.tuple #[.pointer none, .int .i64 oe]) ∧ Up w3 w' := fun w3 h3 => by
    rw [← hoe]; exact find_err nm w3 h3 hfe
  have ho7 : ownE 7 nm to p ds.length s = oe := by rw [own7, if_pos ht]; exact hoe
  have HF := fun w3 (h3 : DOk w3 B D T s) => Hid.of (hFe w3 h3)
  have HPost : ∀ w3, Up w w3 → At w3 w.heap.size 24 [pv D] → At w3 (w.heap.size + 1) 9 [.string nm] → At w3 (w.heap.size + 1 + 1) 9 [.string to] →
      Calls Tryz.prog 45 #[pv D, .int .i64 oe, .func (.func 59) #[] #[pv (w.heap.size + 1), pv (w.heap.size + 1 + 1), pv w.heap.size]] w3 fun e w9 => e = .returned (.int .i64 er) ∧ ∃ s', AftX w w9 B D T s s' ∧ Stp 7 nm to p ds s s' := fun w3 u3 b1 b2 b3 => by
    rw [← her, ← ho7]
    refine actX_Rename 7 nm to p ds _ _ _ w w3 (HI.out.up u3) u3 hu hT (fun hd ho w4 h4 f4 g4 => ?_)
    exact absurd (ho7.symm.trans ho) (fun e => hfe (hoe.trans e))
  rw [her]
  have HPo := Hid.of HPost
  have HNE := Hid.of ht
  clear HPost h ht her ho7 hFe hoe hfe
  go_enter Tryz.func25, Tryz.ntmps25
  have c3 := HB3.out.cell (i := 0) rfl
  go_wp2_with fail
  generalize ((w.alloc (.cells [pv D].toArray 24)).alloc (.cells [.string nm].toArray 9)).alloc (.cells [.string to].toArray 9) = W2 at *
  have hNe := nameError_gen to W2 (HI.out.up HU.out).ml
  rw [HNE.out] at hNe
  refine hNe.mono ?_
  clear hNe
  rintro e w2 ⟨rfl, u2⟩
  have HU2 := Hid.of (HU.out.trans u2)
  have HB1a := Hid.of (HB1.out.up u2)
  have HB2a := Hid.of (HB2.out.up u2)
  have HB3a := Hid.of (HB3.out.up u2)
  clear u2 c3
  dsimp only
  have c1 := HB1a.out.cell (i := 0) rfl
  have c2 := HB2a.out.cell (i := 0) rfl
  go_wp2_with fail
  refine (HF w2 (HI.out.up HU2.out)).out.mono ?_
  rintro e w3 ⟨rfl, u3⟩
  have HU3 := Hid.of (HU2.out.trans u3)
  have HB1' := Hid.of (HB1a.out.up u3)
  have HB2' := Hid.of (HB2a.out.up u3)
  have HB3' := Hid.of (HB3a.out.up u3)
  clear u3 HF c1 c2
  dsimp only
  have c1 := HB1'.out.cell (i := 0) rfl
  go_wp2_with fail
  refine (HPo.out w3 HU3.out HB1'.out HB2'.out HB3'.out).mono ?_
  rintro e w9 ⟨rfl, hP⟩
  have HR := Hid.of hP
  clear hP HPo
  dsimp only
  go_wp2
  go_ret
  exact ⟨rfl, HR.out⟩
set_option maxRecDepth 100000 in
set_option maxHeartbeats 4000000 in
theorem Rename_bad3 {B D T : Nat} {s : DD} (nm to : ByteArray) (p : Int) (ds : List UInt8) (w : World) (h : DOk w B D T s) (hu : s.unt ≤ 9223372036854775807) (hT : T + 3 ≤ 100000) (ht : nmE to.data.toList = 120) :
    Calls Tryz.prog 25 #[pv D, .string nm, .string to] w fun e w9 => e = .returned (.int .i64 (erE 7 nm to p ds.length s)) ∧ ∃ s', AftX w w9 B D T s s' ∧ Stp 7 nm to p ds s s' := by
  have HI := Hid.of h
  have a1 := at_new w 24 [pv D]
  have a2 := at_new (w.alloc (.cells [pv D].toArray 24)) 9 [.string nm]
  have a3 := at_new ((w.alloc (.cells [pv D].toArray 24)).alloc (.cells [.string nm].toArray 9)) 9 [.string to]
  rw [alloc_size] at a2
  rw [alloc_size, alloc_size] at a3
  have HB1 := Hid.of (a1.up (((Up.refl _).alloc (.cells [.string nm].toArray 9)).alloc (.cells [.string to].toArray 9)))
  have HB2 := Hid.of (a2.up ((Up.refl _).alloc (.cells [.string to].toArray 9)))
  have HB3 := Hid.of a3
  have HU := Hid.of ((((Up.refl w).alloc (.cells [pv D].toArray 24)).alloc (.cells [.string nm].toArray 9)).alloc (.cells [.string to].toArray 9))
  clear a1 a2 a3
  obtain ⟨er, her⟩ : ∃ er : Int, erE 7 nm to p ds.length s = er := ⟨_, rfl⟩
  have ho7 : ownE 7 nm to p ds.length s = 120 := by rw [own7, if_neg (by rw [ht]; decide)]
  have HPost : ∀ w3, Up w w3 → At w3 w.heap.size 24 [pv D] → At w3 (w.heap.size + 1) 9 [.string nm] → At w3 (w.heap.size + 1 + 1) 9 [.string to] →
      Calls Tryz.prog 45 #[pv D, .int .i64 120, .func (.func 59) #[] #[pv (w.heap.size + 1), pv (w.heap.size + 1 + 1), pv w.heap.size]] w3 fun e w9 => e = .returned (.int .i64 er) ∧ ∃ s', AftX w w9 B D T s s' ∧ Stp 7 nm to p ds s s' := fun w3 u3 b1 b2 b3 => by
    rw [← her, ← ho7]
    refine actX_Rename 7 nm to p ds _ _ _ w w3 (HI.out.up u3) u3 hu hT (fun hd ho w4 h4 f4 g4 => ?_)
    exact absurd (ho7.symm.trans ho) (by decide)
  rw [her]
  have HPo := Hid.of HPost
  have HNE := Hid.of ht
  clear HPost h ht her ho7
  go_enter Tryz.func25, Tryz.ntmps25
  have c3 := HB3.out.cell (i := 0) rfl
  go_wp2_with fail
  generalize ((w.alloc (.cells [pv D].toArray 24)).alloc (.cells [.string nm].toArray 9)).alloc (.cells [.string to].toArray 9) = W2 at *
  have hNe := nameError_gen to W2 (HI.out.up HU.out).ml
  rw [HNE.out] at hNe
  refine hNe.mono ?_
  clear hNe
  rintro e w2 ⟨rfl, u2⟩
  have HU2 := Hid.of (HU.out.trans u2)
  have HB1a := Hid.of (HB1.out.up u2)
  have HB2a := Hid.of (HB2.out.up u2)
  have HB3a := Hid.of (HB3.out.up u2)
  clear u2 c3
  dsimp only
  have c1 := HB1a.out.cell (i := 0) rfl
  have c2 := HB2a.out.cell (i := 0) rfl
  go_wp2_with fail
  refine (HPo.out w2 HU2.out HB1a.out HB2a.out HB3a.out).mono ?_
  rintro e w9 ⟨rfl, hP⟩
  have HR := Hid.of hP
  clear hP HPo
  dsimp only
  go_wp2
  go_ret
  exact ⟨rfl, HR.out⟩
theorem Rename_all {B D T : Nat} {s : DD} (nm to : ByteArray) (p : Int) (ds : List UInt8) (w : World) (h : DOk w B D T s) (hu : s.unt ≤ 9223372036854775807) (hT : T + 3 ≤ 100000) :
    Calls Tryz.prog 25 #[pv D, .string nm, .string to] w fun e w9 => e = .returned (.int .i64 (erE 7 nm to p ds.length s)) ∧ ∃ s', AftX w w9 B D T s s' ∧ Stp 7 nm to p ds s s' := by
  rcases nmE_two to.data.toList with ht | ht
  · by_cases hf : fnE s nm.data.toList = 0
    · obtain ⟨f, hfm⟩ := fnE_get hf
      exact Rename_yes3 nm to p ds w h hu hT f hfm ht
    · exact Rename_no3 nm to p ds w h hu hT hf ht
  · exact Rename_bad3 nm to p ds w h hu hT ht
end Go.Proofs.YtaibjeehjhlicaaGreatDoor
