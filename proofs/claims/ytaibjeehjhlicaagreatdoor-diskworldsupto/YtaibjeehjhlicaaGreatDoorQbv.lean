import Derived.Test.YtaibjeehjhlicaaGreatDoorQay
import Derived.Test.YtaibjeehjhlicaaGreatDoorQaz
import Derived.Test.YtaibjeehjhlicaaGreatDoorQap
import Derived.Test.YtaibjeehjhlicaaGreatDoorQbu
import Derived.Laws.Small
namespace Go.Proofs.YtaibjeehjhlicaaGreatDoor
open Go.RowKit Go.Shelf TextNum ModNum
set_option maxRecDepth 100000 in
set_option maxHeartbeats 2000000 in
theorem Fail_ok {B D T : Nat} {s : DD} (n er : Int) (w : World) (h : DOk w B D T s) (hd : s.dead = false) (he : er = 123 ∨ er = 124 ∨ er = 125) (hT : T + 1 ≤ 100000) :
    Calls Tryz.prog 11 #[pv D, .int .i64 n, .int .i64 er] w fun e w' => e = .returned (.int .i64 0) ∧ DOk w' B D (T + 1) (faS s n er) ∧ Fr (fun k => k = D) w w' := by
  have HA := Hid.of (h.disk0 hd)
  have c2 := (h.disk0 hd).cell (i := 2) rfl
  have ht10 := (h.disk0 hd).thaw 10
  have c10 := (h.disk0 hd).cell (i := 10) rfl
  have c11 := (h.disk0 hd).cell (i := 11) rfl
  have HI := Hid.of h
  have hacts := h.num.2.2.2.1
  clear h
  have HP := Hid.of (show ∀ w', At w' D 85 [.int .i64 (s.room : Int), .int .i64 (usd s.nf : Int), .bool false, .map (some s.M), .map (some s.L), s.vC, s.vLo, .int .i64 (lsd (fls s) : Int), .int .i64 (s.trn : Int), .int .i64 (s.acts : Int), .int .i64 (n.toNat : Int), .int .i64 er] → w.grownBy w' (some D) → DOk w' B D (T + 1) (faS s n er) ∧ Fr (fun k => k = D) w w' from fun w' a g => by
    have a' : At w' D 85 (dcl (faS s n er)) := by
      have e : dcl (faS s n er) = [.int .i64 (s.room : Int), .int .i64 (usd s.nf : Int), .bool false, .map (some s.M), .map (some s.L), s.vC, s.vLo, .int .i64 (lsd (fls s) : Int), .int .i64 (s.trn : Int), .int .i64 (s.acts : Int), .int .i64 (n.toNat : Int), .int .i64 er] := by
        show [Value.int .i64 (s.room : Int), _, .bool s.dead, _, _, _, _, _, _, _, _, _] = _
        rw [hd]
        rfl
      rw [e]
      exact a
    exact HI.out.acted g s.acts n.toNat er s.dead a' (by omega) hT)
  obtain ⟨m, hm⟩ : ∃ m : Int, (n.toNat : Int) = m := ⟨_, rfl⟩
  have hmx : max n 0 = m := by omega
  rw [hm] at HP
  clear hm
  have HA1 := Hid.of (HA.out.set 10 (.int .i64 m))
  have HU1 := Hid.of (grown_at w D 10 (.int .i64 m))
  have ht11 := HA.out.thaw 11
  have HA2 := Hid.of (HA1.out.set 11 (.int .i64 er))
  have HU2 := Hid.of (grown_trans HU1.out (grown_at _ D 11 (.int .i64 er)))
  rcases he with rfl | rfl | rfl
  all_goals
    go_enter Tryz.func11, Tryz.ntmps11
    go_wp2
    go_ret
    exact ⟨rfl, HP.out _ HA2.out HU2.out⟩
set_option maxRecDepth 100000 in
theorem Fail_arg {D : Nat} (n er : Int) (w : World) (he : er ≠ 123 ∧ er ≠ 124 ∧ er ≠ 125) :
    Calls Tryz.prog 11 #[pv D, .int .i64 n, .int .i64 er] w fun e w' => e = .returned (.int .i64 1) ∧ w' = w := by
  obtain ⟨h1, h2, h3⟩ := he
  have q1 : (er != 123) = true := by rw [bne_iff_ne]; exact h1
  have q2 : (er != 124) = true := by rw [bne_iff_ne]; exact h2
  have q3 : (er != 125) = true := by rw [bne_iff_ne]; exact h3
  go_enter Tryz.func11, Tryz.ntmps11
  go_wp2
  go_ret
  exact ⟨rfl, rfl⟩
theorem DOk.diskD {w : World} {B D T : Nat} {s : DD} (h : DOk w B D T s) (hd : s.dead = true) : w.cell? ⟨D, 2, none⟩ = some (.bool true) := by
  have c := h.disk.cell (i := 2) rfl
  rw [hd] at c
  exact c
set_option maxRecDepth 100000 in
theorem Fail_dead {B D T : Nat} {s : DD} (n er : Int) (w : World) (h : DOk w B D T s) (hd : s.dead = true) (he : er = 123 ∨ er = 124 ∨ er = 125) :
    Calls Tryz.prog 11 #[pv D, .int .i64 n, .int .i64 er] w fun e w' => e = .returned (.int .i64 125) ∧ w' = w := by
  have c2 := h.diskD hd
  clear h
  rcases he with rfl | rfl | rfl
  all_goals
    go_enter Tryz.func11, Tryz.ntmps11
    go_wp2
    go_ret
    exact ⟨rfl, rfl⟩
set_option maxRecDepth 100000 in
theorem Read_dead {B D T : Nat} {s : DD} (nm : ByteArray) (w : World) (h : DOk w B D T s) (hd : s.dead = true) :
    Calls Tryz.prog 29 #[pv D, .string nm] w fun e w' => e = .returned (.tuple #[.slice none 0 0, .int .i64 125]) ∧ w' = w := by
  have c2 := h.diskD hd
  clear h
  go_enter Tryz.func29, Tryz.ntmps29
  go_wp2
  go_ret2
  exact ⟨rfl, rfl⟩
set_option maxRecDepth 100000 in
theorem List_dead {B D T : Nat} {s : DD} (nm : ByteArray) (w : World) (h : DOk w B D T s) (hd : s.dead = true) :
    Calls Tryz.prog 12 #[pv D, .string nm] w fun e w' => e = .returned (.slice none 0 0) ∧ w' = w := by
  have c2 := h.diskD hd
  clear h
  go_enter Tryz.func12, Tryz.ntmps12
  go_wp2
  go_ret
  exact ⟨rfl, rfl⟩
set_option maxRecDepth 100000 in
theorem Used_dead {B D T : Nat} {s : DD} (w : World) (h : DOk w B D T s) (hd : s.dead = true) :
    Calls Tryz.prog 30 #[pv D] w fun e w' => e = .returned (.int .i64 0) ∧ w' = w := by
  have c2 := h.diskD hd
  clear h
  go_enter Tryz.func30, Tryz.ntmps30
  go_wp2
  go_ret
  exact ⟨rfl, rfl⟩
set_option maxRecDepth 100000 in
set_option maxHeartbeats 1000000 in
theorem Files_dead {B D T : Nat} {s : DD} (w : World) (h : DOk w B D T s) (hd : s.dead = true) :
    Calls Tryz.prog 15 #[pv D] w fun e w' => e = .returned (.slice none 0 0) ∧ Up w w' := by
  have HL := Hid.of (List_dead ⟨#[]⟩ w h hd)
  clear h
  go_enter Tryz.func15, Tryz.ntmps15
  go_wp2_with fail
  refine HL.out.mono ?_
  rintro e w2 ⟨rfl, h2⟩
  have HU := Hid.of (show Up w w2 by rw [h2]; exact Up.refl w)
  clear h2
  dsimp only
  go_wp2
  go_loopw [3, 9] (fun v3 v9 wr => v3 = .slice none 0 0 ∧ v9 = .int .i64 0 ∧ Hid (Up w wr)) (fun _ _ _ => 0)
  case atStart => exact ⟨rfl, rfl, HU⟩
  case round =>
    obtain ⟨rfl, rfl, hU⟩ := hrel
    go_wp2
    go_ret
    exact ⟨rfl, hU.out⟩
def plainP (o : OP) (m : Nat) : Prop := 3 ≤ o.kd ∧ o.kd ≤ 8 ∧ m ≤ 1048576
def plainB (o : OP) (m : Nat) : Bool := decide (3 ≤ o.kd ∧ o.kd ≤ 8 ∧ m ≤ 1048576)
theorem plainB_t {o : OP} {m : Nat} (h : plainP o m) : plainB o m = true := decide_eq_true (show 3 ≤ o.kd ∧ o.kd ≤ 8 ∧ m ≤ 1048576 from h)
theorem plainB_f {o : OP} {m : Nat} (h : ¬ plainP o m) : plainB o m = false := decide_eq_false (show ¬ (3 ≤ o.kd ∧ o.kd ≤ 8 ∧ m ≤ 1048576) from h)
set_option maxRecDepth 100000 in
set_option maxHeartbeats 2000000 in
theorem plain_walk (o : OP) (ds : List UInt8) (w : World) (hd : Sb w o.v6 ds) : Calls Tryz.prog 26 #[.agg (opc o).toArray] w fun e w' => e = .returned (.bool ((plainB o ds.length))) ∧ Up w w' := by
  obtain ⟨kd, d, nm, to, at_, e, v6, v7, v8⟩ := o
  obtain ⟨a, c, h6, _⟩ := id hd
  have h6 : v6 = .slice a ds.length c := h6
  subst h6
  clear hd
  have HB := Hid.of (at_new w 55 [.int .i64 kd, .int .i64 d, .string nm, .string to, .int .i64 at_, .int .i64 e, .slice a ds.length c, v7, v8])
  have HU := Hid.of ((Up.refl w).alloc (.cells [.int .i64 kd, .int .i64 d, .string nm, .string to, .int .i64 at_, .int .i64 e, .slice a ds.length c, v7, v8].toArray 55))
  have c0 := HB.out.cell (i := 0) rfl
  have c6 := HB.out.cell (i := 6) rfl
  by_cases h3 : 3 ≤ kd
  · by_cases h8 : kd ≤ 8
    · by_cases hm : ds.length ≤ 1048576
      · have HR := Hid.of (show true = (plainB ⟨kd, d, nm, to, at_, e, .slice a ds.length c, v7, v8⟩ ds.length) from (plainB_t (show plainP _ _ from ⟨h3, h8, hm⟩)).symm)
        have hmz : (ds.length : Int) ≤ 1048576 := by omega
        show Calls _ _ #[.agg #[.int .i64 kd, .int .i64 d, .string nm, .string to, .int .i64 at_, .int .i64 e, .slice a ds.length c, v7, v8]] _ _
        go_enter Tryz.func26, Tryz.ntmps26
        go_wp2
        go_ret
        exact ⟨by rw [← HR.out]; rfl, HU.out⟩
      · have HR := Hid.of (show false = (plainB ⟨kd, d, nm, to, at_, e, .slice a ds.length c, v7, v8⟩ ds.length) from (plainB_f (fun h : plainP _ _ => hm h.2.2)).symm)
        have hmz : ¬ (ds.length : Int) ≤ 1048576 := by omega
        show Calls _ _ #[.agg #[.int .i64 kd, .int .i64 d, .string nm, .string to, .int .i64 at_, .int .i64 e, .slice a ds.length c, v7, v8]] _ _
        go_enter Tryz.func26, Tryz.ntmps26
        go_wp2
        go_ret
        exact ⟨by rw [← HR.out]; rfl, HU.out⟩
    · have HR := Hid.of (show false = (plainB ⟨kd, d, nm, to, at_, e, .slice a ds.length c, v7, v8⟩ ds.length) from (plainB_f (fun h : plainP _ _ => h8 h.2.1)).symm)
      show Calls _ _ #[.agg #[.int .i64 kd, .int .i64 d, .string nm, .string to, .int .i64 at_, .int .i64 e, .slice a ds.length c, v7, v8]] _ _
      go_enter Tryz.func26, Tryz.ntmps26
      go_wp2
      go_ret
      exact ⟨by rw [← HR.out]; rfl, HU.out⟩
  · have HR := Hid.of (show false = (plainB ⟨kd, d, nm, to, at_, e, .slice a ds.length c, v7, v8⟩ ds.length) from (plainB_f (fun h : plainP _ _ => h3 h.1)).symm)
    show Calls _ _ #[.agg #[.int .i64 kd, .int .i64 d, .string nm, .string to, .int .i64 at_, .int .i64 e, .slice a ds.length c, v7, v8]] _ _
    go_enter Tryz.func26, Tryz.ntmps26
    go_wp2
    go_ret
    exact ⟨by rw [← HR.out]; rfl, HU.out⟩
theorem Fr.drew {S : Nat → Prop} {w w' : World} (h : Fr S w w') : Fr S w w'.drew := h.up (Up.refl w').drew
set_option maxRecDepth 100000 in
set_option maxHeartbeats 4000000 in
theorem act_Create {B D T : Nat} {s : DD} (d : Int) (nm to : ByteArray) (at_ e : Int) (v6 v7 v8 : Value) (ds : List UInt8) (w : World) (h : DOk w B D T s) (hu : s.unt ≤ 9223372036854775807) (hT : T + 3 ≤ 100000) :
    Calls Tryz.prog 27 #[pv D, .agg #[.int .i64 3, .int .i64 d, .string nm, .string to, .int .i64 at_, .int .i64 e, v6, v7, v8]] w fun e w9 => e = .returned (.int .i64 (erE 3 nm to at_ ds.length s)) ∧ ∃ s', AftX w w9 B D T s s' ∧ Stp 3 nm to at_ ds s s' := by
  have HB := Hid.of (at_new w 55 [.int .i64 3, .int .i64 d, .string nm, .string to, .int .i64 at_, .int .i64 e, v6, v7, v8])
  have HU := Hid.of ((Up.refl w).alloc (.cells [.int .i64 3, .int .i64 d, .string nm, .string to, .int .i64 at_, .int .i64 e, v6, v7, v8].toArray 55))
  have c0 := HB.out.cell (i := 0) rfl
  have c2 := HB.out.cell (i := 2) rfl
  have c3 := HB.out.cell (i := 3) rfl
  have HC := Hid.of (Create_all (B := B) (T := T) (s := s) nm to at_ ds _ (h.up HU.out) hu hT)
  clear h
  go_enter Tryz.func27, Tryz.ntmps27
  go_wp2_with fail
  refine HC.out.mono ?_
  rintro e9 w9 ⟨rfl, s', a9, p9⟩
  have HX := Hid.of (And.intro (AftX.up HU.out a9) p9)
  clear a9 p9
  dsimp only
  go_wp2
  go_ret
  exact ⟨rfl, _, HX.out⟩
set_option maxRecDepth 100000 in
set_option maxHeartbeats 4000000 in
theorem act_Sync {B D T : Nat} {s : DD} (d : Int) (nm to : ByteArray) (at_ e : Int) (v6 v7 v8 : Value) (ds : List UInt8) (w : World) (h : DOk w B D T s) (hu : s.unt ≤ 9223372036854775807) (hT : T + 3 ≤ 100000) (hly : ∀ f ∈ fls s, lay f.lb f.lo = f.nb) :
    Calls Tryz.prog 27 #[pv D, .agg #[.int .i64 5, .int .i64 d, .string nm, .string to, .int .i64 at_, .int .i64 e, v6, v7, v8]] w fun e w9 => e = .returned (.int .i64 (erE 5 nm to at_ ds.length s)) ∧ ∃ s', AftX w w9 B D T s s' ∧ Stp 5 nm to at_ ds s s' := by
  have HB := Hid.of (at_new w 55 [.int .i64 5, .int .i64 d, .string nm, .string to, .int .i64 at_, .int .i64 e, v6, v7, v8])
  have HU := Hid.of ((Up.refl w).alloc (.cells [.int .i64 5, .int .i64 d, .string nm, .string to, .int .i64 at_, .int .i64 e, v6, v7, v8].toArray 55))
  have c0 := HB.out.cell (i := 0) rfl
  have c2 := HB.out.cell (i := 2) rfl
  have c3 := HB.out.cell (i := 3) rfl
  have HC := Hid.of (Sync_all (B := B) (T := T) (s := s) nm to at_ ds _ (h.up HU.out) hu hT hly)
  clear h
  go_enter Tryz.func27, Tryz.ntmps27
  go_wp2_with fail
  refine HC.out.mono ?_
  rintro e9 w9 ⟨rfl, s', a9, p9⟩
  have HX := Hid.of (And.intro (AftX.up HU.out a9) p9)
  clear a9 p9
  dsimp only
  go_wp2
  go_ret
  exact ⟨rfl, _, HX.out⟩
set_option maxRecDepth 100000 in
set_option maxHeartbeats 4000000 in
theorem act_Names {B D T : Nat} {s : DD} (d : Int) (nm to : ByteArray) (at_ e : Int) (v6 v7 v8 : Value) (ds : List UInt8) (w : World) (h : DOk w B D T s) (hu : s.unt ≤ 9223372036854775807) (hT : T + 3 ≤ 100000) (hcw : CW s) (hn0 : s.n0 + s.chs.length ≤ 1000000) :
    Calls Tryz.prog 27 #[pv D, .agg #[.int .i64 6, .int .i64 d, .string nm, .string to, .int .i64 at_, .int .i64 e, v6, v7, v8]] w fun e w9 => e = .returned (.int .i64 (erE 6 nm to at_ ds.length s)) ∧ ∃ s', AftX w w9 B D T s s' ∧ Stp 6 nm to at_ ds s s' := by
  have HB := Hid.of (at_new w 55 [.int .i64 6, .int .i64 d, .string nm, .string to, .int .i64 at_, .int .i64 e, v6, v7, v8])
  have HU := Hid.of ((Up.refl w).alloc (.cells [.int .i64 6, .int .i64 d, .string nm, .string to, .int .i64 at_, .int .i64 e, v6, v7, v8].toArray 55))
  have c0 := HB.out.cell (i := 0) rfl
  have c2 := HB.out.cell (i := 2) rfl
  have c3 := HB.out.cell (i := 3) rfl
  have HC := Hid.of (SyncNames_all (B := B) (T := T) (s := s) nm to at_ ds _ (h.up HU.out) hu hT hcw hn0)
  clear h
  go_enter Tryz.func27, Tryz.ntmps27
  go_wp2_with fail
  refine HC.out.mono ?_
  rintro e9 w9 ⟨rfl, s', a9, p9⟩
  have HX := Hid.of (And.intro (AftX.up HU.out a9) p9)
  clear a9 p9
  dsimp only
  go_wp2
  go_ret
  exact ⟨rfl, _, HX.out⟩
set_option maxRecDepth 100000 in
set_option maxHeartbeats 4000000 in
theorem act_Rename {B D T : Nat} {s : DD} (d : Int) (nm to : ByteArray) (at_ e : Int) (v6 v7 v8 : Value) (ds : List UInt8) (w : World) (h : DOk w B D T s) (hu : s.unt ≤ 9223372036854775807) (hT : T + 3 ≤ 100000) :
    Calls Tryz.prog 27 #[pv D, .agg #[.int .i64 7, .int .i64 d, .string nm, .string to, .int .i64 at_, .int .i64 e, v6, v7, v8]] w fun e w9 => e = .returned (.int .i64 (erE 7 nm to at_ ds.length s)) ∧ ∃ s', AftX w w9 B D T s s' ∧ Stp 7 nm to at_ ds s s' := by
  have HB := Hid.of (at_new w 55 [.int .i64 7, .int .i64 d, .string nm, .string to, .int .i64 at_, .int .i64 e, v6, v7, v8])
  have HU := Hid.of ((Up.refl w).alloc (.cells [.int .i64 7, .int .i64 d, .string nm, .string to, .int .i64 at_, .int .i64 e, v6, v7, v8].toArray 55))
  have c0 := HB.out.cell (i := 0) rfl
  have c2 := HB.out.cell (i := 2) rfl
  have c3 := HB.out.cell (i := 3) rfl
  have HC := Hid.of (Rename_all (B := B) (T := T) (s := s) nm to at_ ds _ (h.up HU.out) hu hT)
  clear h
  go_enter Tryz.func27, Tryz.ntmps27
  go_wp2_with fail
  refine HC.out.mono ?_
  rintro e9 w9 ⟨rfl, s', a9, p9⟩
  have HX := Hid.of (And.intro (AftX.up HU.out a9) p9)
  clear a9 p9
  dsimp only
  go_wp2
  go_ret
  exact ⟨rfl, _, HX.out⟩
set_option maxRecDepth 100000 in
set_option maxHeartbeats 4000000 in
theorem act_Remove {B D T : Nat} {s : DD} (d : Int) (nm to : ByteArray) (at_ e : Int) (v6 v7 v8 : Value) (ds : List UInt8) (w : World) (h : DOk w B D T s) (hu : s.unt ≤ 9223372036854775807) (hT : T + 3 ≤ 100000) :
    Calls Tryz.prog 27 #[pv D, .agg #[.int .i64 8, .int .i64 d, .string nm, .string to, .int .i64 at_, .int .i64 e, v6, v7, v8]] w fun e w9 => e = .returned (.int .i64 (erE 8 nm to at_ ds.length s)) ∧ ∃ s', AftX w w9 B D T s s' ∧ Stp 8 nm to at_ ds s s' := by
  have HB := Hid.of (at_new w 55 [.int .i64 8, .int .i64 d, .string nm, .string to, .int .i64 at_, .int .i64 e, v6, v7, v8])
  have HU := Hid.of ((Up.refl w).alloc (.cells [.int .i64 8, .int .i64 d, .string nm, .string to, .int .i64 at_, .int .i64 e, v6, v7, v8].toArray 55))
  have c0 := HB.out.cell (i := 0) rfl
  have c2 := HB.out.cell (i := 2) rfl
  have c3 := HB.out.cell (i := 3) rfl
  have HC := Hid.of (Remove_all (B := B) (T := T) (s := s) nm to at_ ds _ (h.up HU.out) hu hT)
  clear h
  go_enter Tryz.func27, Tryz.ntmps27
  go_wp2_with fail
  refine HC.out.mono ?_
  rintro e9 w9 ⟨rfl, s', a9, p9⟩
  have HX := Hid.of (And.intro (AftX.up HU.out a9) p9)
  clear a9 p9
  dsimp only
  go_wp2
  go_ret
  exact ⟨rfl, _, HX.out⟩
set_option maxRecDepth 100000 in
set_option maxHeartbeats 4000000 in
theorem act_Fail {B D T : Nat} {s : DD} (d : Int) (nm to : ByteArray) (at_ er : Int) (v6 v7 v8 : Value) (w : World) (h : DOk w B D T s) (hd : s.dead = false) (hT : T + 1 ≤ 100000) :
    Calls Tryz.prog 27 #[pv D, .agg #[.int .i64 13, .int .i64 d, .string nm, .string to, .int .i64 at_, .int .i64 er, v6, v7, v8]] w fun e w9 => ∃ z s', e = .returned (.int .i64 z) ∧ DOk w9 B D (T + 1) s' ∧ Fr (fun k => k = D) w w9 ∧ (s' = s ∨ ((er = 123 ∨ er = 124 ∨ er = 125) ∧ s' = faS s at_ er)) := by
  have HB := Hid.of (at_new w 55 [.int .i64 13, .int .i64 d, .string nm, .string to, .int .i64 at_, .int .i64 er, v6, v7, v8])
  have HU := Hid.of ((Up.refl w).alloc (.cells [.int .i64 13, .int .i64 d, .string nm, .string to, .int .i64 at_, .int .i64 er, v6, v7, v8].toArray 55))
  have c0 := HB.out.cell (i := 0) rfl
  have c4 := HB.out.cell (i := 4) rfl
  have c5 := HB.out.cell (i := 5) rfl
  have HC := Hid.of (show Calls Tryz.prog 11 #[pv D, .int .i64 at_, .int .i64 er] (w.alloc (.cells [.int .i64 13, .int .i64 d, .string nm, .string to, .int .i64 at_, .int .i64 er, v6, v7, v8].toArray 55)) (fun e w9 => ∃ z s', e = .returned (.int .i64 z) ∧ DOk w9 B D (T + 1) s' ∧ Fr (fun k => k = D) w w9 ∧ (s' = s ∨ ((er = 123 ∨ er = 124 ∨ er = 125) ∧ s' = faS s at_ er))) from by
    by_cases he : er = 123 ∨ er = 124 ∨ er = 125
    · refine (Fail_ok at_ er _ (h.up HU.out) hd he hT).mono ?_
      rintro e w9 ⟨rfl, q1, q2⟩
      exact ⟨0, _, rfl, q1, ((Fr.refl _ w).up HU.out).trans q2 (fun _ hg => .inl hg), .inr ⟨he, rfl⟩⟩
    · refine (Fail_arg at_ er _ ⟨fun e => he (.inl e), fun e => he (.inr (.inl e)), fun e => he (.inr (.inr e))⟩).mono ?_
      rintro e w9 ⟨rfl, rfl⟩
      exact ⟨1, s, rfl, (h.up HU.out).more (Nat.le_succ _) hT, (Fr.refl _ w).up HU.out, .inl rfl⟩)
  clear h
  go_enter Tryz.func27, Tryz.ntmps27
  go_wp2_with fail
  refine HC.out.mono ?_
  rintro e9 w9 ⟨z, s', rfl, hX⟩
  have HX := Hid.of hX
  clear hX
  dsimp only
  go_wp2
  go_ret
  exact ⟨z, s', rfl, HX.out⟩
set_option maxRecDepth 100000 in
set_option maxHeartbeats 4000000 in
theorem act_Write {B D T : Nat} {s : DD} (d : Int) (nm to : ByteArray) (at_ e : Int) (v6 v7 v8 : Value) (ds : List UInt8) (w : World) (h : DOk w B D T s) (hu : s.unt ≤ 9223372036854775807) (hT : T + 3 ≤ 100000) (hdt : Sb w v6 ds) (hm : ds.length ≤ 1048576) :
    Calls Tryz.prog 27 #[pv D, .agg #[.int .i64 4, .int .i64 d, .string nm, .string to, .int .i64 at_, .int .i64 e, v6, v7, v8]] w fun e w9 => e = .returned (.int .i64 (erE 4 nm to at_ ds.length s)) ∧ ∃ s', AftX w w9 B D T s s' ∧ Stp 4 nm to at_ ds s s' := by
  have HB := Hid.of (at_new w 55 [.int .i64 4, .int .i64 d, .string nm, .string to, .int .i64 at_, .int .i64 e, v6, v7, v8])
  have HU := Hid.of ((Up.refl w).alloc (.cells [.int .i64 4, .int .i64 d, .string nm, .string to, .int .i64 at_, .int .i64 e, v6, v7, v8].toArray 55))
  have c0 := HB.out.cell (i := 0) rfl
  have HDt := Hid.of hdt
  have HNo := Hid.of (show ¬ own D s w.heap.size from fun hk => absurd (h.lt hk) (Nat.lt_irrefl _))
  have HW := Hid.of (show ∀ v5 w5, Up w w5 → Ow w5 w.heap.size v5 ds → Calls Tryz.prog 22 #[pv D, .string nm, .int .i64 at_, v5] w5 fun e w9 => e = .returned (.int .i64 (erE 4 nm to at_ ds.length s)) ∧ ∃ s', AftX w5 w9 B D T s s' ∧ Stp 4 nm to at_ ds s s' from fun v5 w5 u5 o5 => Write_all nm to at_ v5 ds w5 (h.up u5) hu hT (Ow.sb o5) (fun e => by
    have h1 := (World.ownsRow.lt o5 D e).1
    have h2 := lt_of_at h.disk
    omega) hm)
  clear h hdt
  go_enter Tryz.func27, Tryz.ntmps27
  go_wp2
  refine wp_region_held_drew (S := fun w2 => Fr (own D s) (w.alloc (.cells #[.int .i64 4, .int .i64 d, .string nm, .string to, .int .i64 at_, .int .i64 e, v6, v7, v8] 55)) w2) (by kernel_rfl) (Fr.refl _ _).drew (fun hS => ?_)
  refine wpAnyH_take (i := 0) (oi := { dst := some 15, op := Go.Op.move (Go.Operand.tmp 0), type := 24, pos := "law.go:122", after := #[], guard := none }) (v := .pointer (some ⟨D, 0, none⟩)) rfl (by kernel_rfl) (by kernel_rfl) (by kernel_rfl) (fun _ _ _ h => h) (Or.inl ⟨by kernel_rfl, ?_⟩) hS ?_
  · intro w5 hSw
    clear hSw hS
    go_simp
  simp only [Act.put, List.setIfInBounds_toArray, List.set_cons_zero, List.set_cons_succ]
  refine wpAnyH_take (i := 1) (oi := { dst := some 16, op := Go.Op.fieldAddr 55 (Go.Operand.tmp 3) 2, type := 0, pos := "law.go:122", after := #[], guard := none }) (v := .pointer (some ⟨w.heap.size, 2, none⟩)) rfl (by kernel_rfl) (by kernel_rfl) (by kernel_rfl) (fun _ _ _ h => h) (Or.inl ⟨by kernel_rfl, ?_⟩) hS ?_
  · intro w5 hSw
    clear hSw hS
    go_simp
  simp only [Act.put, List.setIfInBounds_toArray, List.set_cons_zero, List.set_cons_succ]
  refine wpAnyH_take (i := 2) (oi := { dst := some 17, op := Go.Op.load 9 (Go.Operand.tmp 16), type := 9, pos := "law.go:122", after := #[{ on := 1, ground := Go.Ground.data }], guard := none }) (v := .string nm) rfl (by kernel_rfl) (by kernel_rfl) (by kernel_rfl) (fun _ _ _ h => h) (Or.inl ⟨by kernel_rfl, ?_⟩) hS ?_
  · intro w5 hSw
    have h0 := (hSw.at HB.out HNo.out).cell (i := 2) rfl
    clear hSw hS
    go_simp
  simp only [Act.put, List.setIfInBounds_toArray, List.set_cons_zero, List.set_cons_succ]
  refine wpAnyH_take (i := 3) (oi := { dst := some 18, op := Go.Op.fieldAddr 55 (Go.Operand.tmp 3) 4, type := 0, pos := "law.go:122", after := #[], guard := none }) (v := .pointer (some ⟨w.heap.size, 4, none⟩)) rfl (by kernel_rfl) (by kernel_rfl) (by kernel_rfl) (fun _ _ _ h => h) (Or.inl ⟨by kernel_rfl, ?_⟩) hS ?_
  · intro w5 hSw
    clear hSw hS
    go_simp
  simp only [Act.put, List.setIfInBounds_toArray, List.set_cons_zero, List.set_cons_succ]
  refine wpAnyH_take (i := 4) (oi := { dst := some 19, op := Go.Op.load 3 (Go.Operand.tmp 18), type := 3, pos := "law.go:122", after := #[{ on := 3, ground := Go.Ground.data }], guard := none }) (v := .int .i64 at_) rfl (by kernel_rfl) (by kernel_rfl) (by kernel_rfl) (fun _ _ _ h => h) (Or.inl ⟨by kernel_rfl, ?_⟩) hS ?_
  · intro w5 hSw
    have h0 := (hSw.at HB.out HNo.out).cell (i := 4) rfl
    clear hSw hS
    go_simp
  simp only [Act.put, List.setIfInBounds_toArray, List.set_cons_zero, List.set_cons_succ]
  refine wpAnyH_take (i := 5) (oi := { dst := some 20, op := Go.Op.fieldAddr 55 (Go.Operand.tmp 3) 6, type := 0, pos := "law.go:122", after := #[], guard := none }) (v := .pointer (some ⟨w.heap.size, 6, none⟩)) rfl (by kernel_rfl) (by kernel_rfl) (by kernel_rfl) (fun _ _ _ h => h) (Or.inl ⟨by kernel_rfl, ?_⟩) hS ?_
  · intro w5 hSw
    clear hSw hS
    go_simp
  simp only [Act.put, List.setIfInBounds_toArray, List.set_cons_zero, List.set_cons_succ]
  refine wpAnyH_take (i := 6) (oi := { dst := some 21, op := Go.Op.load 41 (Go.Operand.tmp 20), type := 41, pos := "law.go:122", after := #[{ on := 5, ground := Go.Ground.data }], guard := none }) (v := v6) rfl (by kernel_rfl) (by kernel_rfl) (by kernel_rfl) (fun _ _ _ h => h) (Or.inl ⟨by kernel_rfl, ?_⟩) hS ?_
  · intro w5 hSw
    have h0 := (hSw.at HB.out HNo.out).cell (i := 6) rfl
    clear hSw hS
    go_simp
  simp only [Act.put, List.setIfInBounds_toArray, List.set_cons_zero, List.set_cons_succ]
  refine wpAnyH_ready (rs := [7]) (by kernel_rfl) (by simp) ?_
  refine AllReadyH.cons (o := { dst := some 22, op := Go.Op.call { callee := Go.Callee.value (Go.Operand.func 23), args := #[Go.Operand.tmp 21], argTypes := #[41] }, type := 41, pos := "law.go:122", after := #[{ on := 6, ground := Go.Ground.data }], guard := none }) rfl (fun K hK => ?_) AllReadyH.nil
  rw [if_pos (by kernel_rfl)]
  go_simp
  refine (copied_walk v6 ds _ (HDt.out.up HU.out.drew) (by omega)).mono ?_
  rintro e2 w5 ⟨v5, rfl, o5, u5⟩
  have HU5 := Hid.of (HU.out.drew.trans u5)
  have HO5 := Hid.of (ow_base o5 HU.out.drew.size)
  dsimp only
  refine hK.out _ _ (hS.up u5) (fun hS => ?_)
  clear hK K u5 o5
  refine wpAnyH_ready (rs := [8]) (by kernel_rfl) (by simp) ?_
  refine AllReadyH.cons (o := { dst := some 23, op := Go.Op.call { callee := Go.Callee.value (Go.Operand.func 22), args := #[Go.Operand.tmp 15, Go.Operand.tmp 17, Go.Operand.tmp 19, Go.Operand.tmp 22], argTypes := #[24, 9, 3, 41] }, type := 27, pos := "law.go:122", after := #[{ on := 0, ground := Go.Ground.data }, { on := 2, ground := Go.Ground.data }, { on := 4, ground := Go.Ground.data }, { on := 7, ground := Go.Ground.data }, { on := 7, ground := Go.Ground.chain }], guard := none }) rfl (fun K hK => ?_) AllReadyH.nil
  rw [if_pos (by kernel_rfl)]
  go_simp
  refine (HW.out v5 w5 HU5.out HO5.out).mono ?_
  rintro e2 w9 ⟨rfl, s', a9, p9⟩
  have HX := Hid.of (And.intro (AftX.up HU5.out a9) p9)
  dsimp only
  refine hK.out _ _ (hS.trans a9.2.2 (fun _ hg => .inl hg)) (fun hS => ?_)
  clear hK K a9 p9
  refine wpAnyH_ready (rs := [9]) (by kernel_rfl) (by simp) ?_
  refine AllReadyH.cons (o := { dst := some 4, op := Go.Op.assign (Go.Operand.tmp 23), type := 3, pos := "law.go:122", after := #[{ on := 8, ground := Go.Ground.data }, { on := 8, ground := Go.Ground.chain }, { on := 0, ground := Go.Ground.phase }, { on := 1, ground := Go.Ground.phase }, { on := 2, ground := Go.Ground.phase }, { on := 3, ground := Go.Ground.phase }, { on := 4, ground := Go.Ground.phase }, { on := 5, ground := Go.Ground.phase }, { on := 6, ground := Go.Ground.phase }, { on := 7, ground := Go.Ground.phase }, { on := 8, ground := Go.Ground.phase }], guard := none }) rfl (fun K hK => ?_) AllReadyH.nil
  rw [if_pos (by kernel_rfl)]
  go_simp
  refine hK.out _ _ hS (fun hS => ?_)
  clear hK K
  clear hS
  refine wpAnyH_done (by kernel_rfl) ?_ _
  go_wp2
  go_ret
  exact ⟨rfl, _, HX.out⟩
/-- one of the six acts -/
theorem act_plain {B D T : Nat} {s : DD} (o : OP) (ds : List UInt8) (w : World) (h : DOk w B D T s) (hu : s.unt ≤ 9223372036854775807) (hT : T + 3 ≤ 100000) (hp : plainP o ds.length) (hdt : Sb w o.v6 ds) (hcw : CW s) (hn0 : s.n0 + s.chs.length ≤ 1000000) (hly : ∀ f ∈ fls s, lay f.lb f.lo = f.nb) :
    Calls Tryz.prog 27 #[pv D, .agg (opc o).toArray] w fun e w9 => e = .returned (.int .i64 (erE o.kd o.nm o.to o.at_ ds.length s)) ∧ ∃ s', AftX w w9 B D T s s' ∧ Stp o.kd o.nm o.to o.at_ ds s s' := by
  obtain ⟨kd, d, nm, to, at_, e, v6, v7, v8⟩ := o
  obtain ⟨h3, h8, hm⟩ := hp
  have h3 : 3 ≤ kd := h3
  have h8 : kd ≤ 8 := h8
  have hk : kd = 3 ∨ kd = 4 ∨ kd = 5 ∨ kd = 6 ∨ kd = 7 ∨ kd = 8 := by omega
  rcases hk with rfl | rfl | rfl | rfl | rfl | rfl
  · exact act_Create d nm to at_ e v6 v7 v8 ds w h hu hT
  · exact act_Write d nm to at_ e v6 v7 v8 ds w h hu hT hdt hm
  · exact act_Sync d nm to at_ e v6 v7 v8 ds w h hu hT hly
  · exact act_Names d nm to at_ e v6 v7 v8 ds w h hu hT hcw hn0
  · exact act_Rename d nm to at_ e v6 v7 v8 ds w h hu hT
  · exact act_Remove d nm to at_ e v6 v7 v8 ds w h hu hT
end Go.Proofs.YtaibjeehjhlicaaGreatDoor
