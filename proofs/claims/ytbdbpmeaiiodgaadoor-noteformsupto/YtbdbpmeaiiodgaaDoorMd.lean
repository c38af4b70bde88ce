import Derived.Test.YtbdbpmeaiiodgaaDoorMc
import Derived.Test.YtbdbpmeaiiodgaaDoorMb
import Derived.Test.YtbdbpmeaiiodgaaDoorMa
import Derived.SizedLaws
import Derived.ProofKit
import Derived.OpenShut
import Derived.ChangeSame
import Derived.WideKeyArgs
import Derived.DataReads
import Derived.Test.YtbdbpmeaiiodgaaDoorTb
import Derived.Lib.LaidU8
import Derived.Lib.LaidTab
import Derived.LaidMore
import Derived.Stop.LaidErr
import Derived.Test.YtbdbpmeaiiodgaaDoorNm
import Derived.Test.YtbdbpmeaiiodgaaDoorNl
namespace Go.Proofs.YtbdbpmeaiiodgaaDoor
section
open Go.RowKit TextNum
theorem rep_get {m n i : Nat} (h : i < (List.replicate n (hq m).1).length) {w : World} {b o : Nat} (hs : SgAt w b o (List.replicate n (hq m).1)[i]) : ∃ a2 c2, w.cell? ⟨b, o, none⟩ = some (.string ⟨#[35]⟩) ∧ w.cell? ⟨b, o + 1, none⟩ = some (.int .u32 (m : Int)) ∧ w.cell? ⟨b, o + 2, none⟩ = some (.slice a2 0 c2) := by
  rw [List.getElem_replicate] at hs
  obtain ⟨a2, n2, c2, k1, k2, k3, k4, _⟩ := hs
  have e : n2 = 0 := k4
  subst e
  exact ⟨a2, c2, k1, k2, k3⟩
set_option maxRecDepth 100000 in
set_option maxHeartbeats 4000000 in
theorem bears_walk (v vL vB vM : Value) (x : UInt8) (qs : List (Sg × Option Addr × Nat)) (w : World) (h : Brs w v vL vB vM x qs) (hn : qs.length ≤ 16) (hl : ∀ q, q ∈ qs → q.1.bytes.length ≤ 1048576) (hx : x.toNat ≤ 100) :
    Calls Tryd.prog 39 #[.agg #[v, vL, vB, vM, .int .u8 (x.toNat : Int)]] w fun e w' => e = .returned (.bool true) ∧ Up w w' := by
  obtain ⟨h1, h2, h3, ms, h4, h5, h6⟩ := h
  obtain ⟨n, hnn⟩ : ∃ n, qs.length = n := ⟨_, rfl⟩
  obtain ⟨av, cv, rfl, _, hv⟩ := h1.get
  obtain ⟨aL, cL, rfl, _, hL⟩ := h2.get
  obtain ⟨aB, cB, rfl, hB⟩ := h3
  obtain ⟨aM, cM, rfl, hM⟩ := h5
  have HV := Hid.of hv
  have HLo := Hid.of hL
  have HBM := Hid.of (And.intro hB (And.intro hM h6))
  have HL := Hid.of hl
  clear h1 h2 hv hL hB hM h6 hl
  simp only [List.length_replicate, List.length_map, h4, hnn] at HV HLo ⊢
  rw [hnn] at hn
  have hwx : IntKind.u32.wrap (x.toNat : Int) = (x.toNat : Int) := by have := x.toNat_lt; simp only [IntKind.wrap, IntKind.signed, IntKind.bits]; simp; omega
  have hbox : ∀ j y, ([.slice av n cv, .slice aL (n + 1) cL, .slice aB n cB, .slice aM n cM, .int .u8 (x.toNat : Int)] : List Value)[j]? = some y → (w.alloc (Obj.cells #[.slice av n cv, .slice aL (n + 1) cL, .slice aB n cB, .slice aM n cM, .int .u8 (x.toNat : Int)] 71)).cell? ⟨w.heap.size, j, none⟩ = some y := fun j y hj => by
    have := cells_new w 71 [.slice av n cv, .slice aL (n + 1) cL, .slice aB n cB, .slice aM n cM, .int .u8 (x.toNat : Int)] j y hj
    rwa [add_plain, Nat.zero_add] at this
  have HBx := Hid.of (And.intro (hbox 0 _ rfl) (And.intro (hbox 1 _ rfl) (And.intro (hbox 2 _ rfl) (And.intro (hbox 3 _ rfl) (hbox 4 _ rfl)))))
  have hu0 := (Up.refl w).alloc (Obj.cells #[.slice av n cv, .slice aL (n + 1) cL, .slice aB n cB, .slice aM n cM, .int .u8 (x.toNat : Int)] 71)
  clear hbox
  go_enter Tryd.func39, Tryd.ntmps39
  go_wp2
  generalize w.alloc (Obj.cells #[.slice av n cv, .slice aL (n + 1) cL, .slice aB n cB, .slice aM n cM, .int .u8 (x.toNat : Int)] 71) = w0 at *
  have HU0 := Hid.of hu0
  clear hu0
  go_loopw [3] (fun v3 wr => ∃ i : Nat, v3 = .int .i64 (i : Int) ∧ i ≤ n + 1 ∧ Hid (Up w0 wr)) (fun v3 _ => n + 1 - (intOf v3).toNat)
  case atStart => exact ⟨0, rfl, by omega, Up.refl _⟩
  case round =>
    obtain ⟨i, rfl, hi, hI⟩ := hrel
    have b1 := hI.out.cell HBx.out.2.1
    have b4 := hI.out.cell HBx.out.2.2.2.2
    by_cases hlt : i < n + 1
    · have hlt' : (i : Int) < ((n + 1 : Nat) : Int) := by omega
      have hlt2 : (i : Int) < (n : Int) + 1 := by omega
      obtain ⟨b, off, rfl, hs⟩ := HLo.out i hlt
      obtain ⟨a2, c2, k1, k2, k3⟩ := rep_get (by simpa using hlt) hs
      have k1' := (HU0.out.trans hI.out).cell k1
      have k2' := (HU0.out.trans hI.out).cell k2
      have k3' := (HU0.out.trans hI.out).cell k3
      clear k1 k2 k3 hs
      go_wp2_with fail
      go_quiet (fail)
      go_wp2
      go_roundw
      case rel => exact ⟨i + 1, by go_num, by omega, hI.out.drewN _⟩
      case measure => simp [intOf]; omega
    · have hlt' : ¬ (i : Int) < ((n + 1 : Nat) : Int) := by omega
      have hlt2 : ¬ (i : Int) < (n : Int) + 1 := by omega
      go_wp2
      clear b1 b4
      go_loopw [4] (fun v4 wr => ∃ i : Nat, v4 = .int .i64 (i : Int) ∧ i ≤ n ∧ Hid (Up w0 wr)) (fun v4 _ => n - (intOf v4).toNat)
      case atStart => exact ⟨0, rfl, by omega, hI⟩
      case round =>
        clear hI hlt hlt' hlt2 hi
        obtain ⟨i, rfl, hi, hI⟩ := hrel
        have b0 := hI.out.cell HBx.out.1
        have b4 := hI.out.cell HBx.out.2.2.2.2
        by_cases hlt : i < n
        · have hlt' : (i : Int) < (n : Int) := by omega
          obtain ⟨b, off, rfl, hs⟩ := HV.out i hlt
          obtain ⟨a2, c2, k1, k2, k3⟩ := rep_get (by simpa using hlt) hs
          have k1' := (HU0.out.trans hI.out).cell k1
          have k2' := (HU0.out.trans hI.out).cell k2
          have k3' := (HU0.out.trans hI.out).cell k3
          clear k1 k2 k3 hs
          go_wp2_with fail
          go_quiet (fail)
          clear k1' k2' k3' b0 b4
          have HU1 := Hid.of (hI.out.drewN nq)
          generalize wr.drewN nq = wr at *
          have hiq : i < qs.length := by omega
          have him : i < ms.length := by omega
          obtain ⟨gB, rfl, kB⟩ := HBM.out.1 i (qv (qs[i]'hiq)) (by rw [List.getElem?_map, List.getElem?_eq_getElem hiq]; rfl)
          obtain ⟨gM, rfl, kM⟩ := HBM.out.2.1 i ms[i] (List.getElem?_eq_getElem him)
          obtain ⟨s1, s2⟩ := HBM.out.2.2 i hiq him
          have HSS := Hid.of (And.intro (s1.up (HU0.out.trans HU1.out)) (s2.up (HU0.out.trans HU1.out)))
          have HLen := Hid.of (HL.out _ (List.getElem_mem hiq))
          have HKB := Hid.of (And.intro ((HU0.out.trans HU1.out).cell kB) ((HU0.out.trans HU1.out).cell kM))
          clear s1 s2 kB kM
          obtain ⟨q1, HQ1⟩ : ∃ q1, Hid (qv (qs[i]'hiq) = q1) := ⟨_, Hid.of rfl⟩
          obtain ⟨q2, HQ2⟩ : ∃ q2, Hid (ms[i]'him = q2) := ⟨_, Hid.of rfl⟩
          rw [HQ1.out] at HSS HKB
          rw [HQ2.out] at HSS HKB
          obtain ⟨y1, m1, z1, hq1⟩ : ∃ y1 m1 z1, q1 = .slice y1 m1 z1 := by
            obtain ⟨y1, z1, e, _⟩ := HSS.out.1
            exact ⟨_, _, _, e⟩
          obtain ⟨y2, m2, z2, hq2⟩ : ∃ y2 m2 z2, q2 = .slice y2 m2 z2 := by
            obtain ⟨y2, z2, e, _⟩ := HSS.out.2
            exact ⟨_, _, _, e⟩
          subst hq1 hq2
          have hw1 : IntKind.u8.wrap (i : Int) = (i : Int) := by simp only [IntKind.wrap, IntKind.signed, IntKind.bits]; simp; omega
          have hw2 : IntKind.u8.wrap ((x.toNat : Int) + (i : Int)) = ((xi x i).toNat : Int) := by rw [xi_toNat hx (by omega)]; simp only [IntKind.wrap, IntKind.signed, IntKind.bits]; simp; omega
          go_wp2_with fail
          refine wp_region_held_drew (S := fun wx => (wx.cell? ⟨w.heap.size, 2, none⟩ = some (.slice (some ⟨gB, 0, none⟩) n cB) ∧ wx.cell? ⟨w.heap.size, 3, none⟩ = some (.slice (some ⟨gM, 0, none⟩) n cM) ∧ wx.cell? ⟨w.heap.size, 4, none⟩ = some (.int .u8 (x.toNat : Int)) ∧ wx.cell? ⟨gB, i, none⟩ = some (.slice y1 m1 z1) ∧ wx.cell? ⟨gM, i, none⟩ = some (.slice y2 m2 z2)) ∧ Up w0 wx) (by kernel_rfl) ⟨⟨HU1.out.cell HBx.out.2.2.1, HU1.out.cell HBx.out.2.2.2.1, HU1.out.cell HBx.out.2.2.2.2, HKB.out.1, HKB.out.2⟩, HU1.out.drew⟩ (fun hS => ?_)
          refine wpAnyH_take (i := 0) (oi := { dst := some 77, op := Go.Op.fieldAddr 71 (Go.Operand.tmp 1) 2, type := 0, pos := "law.go:93", after := #[], guard := none }) (v := .pointer (some ⟨w.heap.size, 2, none⟩)) rfl (by kernel_rfl) (by kernel_rfl) (by kernel_rfl) (fun _ _ _ h => h) (Or.inl ⟨by kernel_rfl, ?_⟩) hS ?_
          · intro w5 hSw
            clear hSw hS
            go_simp
          simp only [Act.put, List.setIfInBounds_toArray, List.set_cons_zero, List.set_cons_succ]
          refine wpAnyH_take (i := 1) (oi := { dst := some 78, op := Go.Op.load 64 (Go.Operand.tmp 77), type := 64, pos := "law.go:93", after := #[{ on := 0, ground := Go.Ground.data }], guard := none }) (v := .slice (some ⟨gB, 0, none⟩) n cB) rfl (by kernel_rfl) (by kernel_rfl) (by kernel_rfl) (fun _ _ _ h => h) (Or.inl ⟨by kernel_rfl, ?_⟩) hS ?_
          · intro w5 hSw
            have h1 := hSw.1.1
            have h2 := hSw.1.2.1
            have h3 := hSw.1.2.2.1
            have h4 := hSw.1.2.2.2.1
            have h5 := hSw.1.2.2.2.2
            clear hSw hS
            go_simp
          simp only [Act.put, List.setIfInBounds_toArray, List.set_cons_zero, List.set_cons_succ]
          refine wpAnyH_take (i := 2) (oi := { dst := some 79, op := Go.Op.move (Go.Operand.tmp 4), type := 3, pos := "law.go:93", after := #[], guard := none }) (v := .int .i64 (i : Int)) rfl (by kernel_rfl) (by kernel_rfl) (by kernel_rfl) (fun _ _ _ h => h) (Or.inl ⟨by kernel_rfl, ?_⟩) hS ?_
          · intro w5 hSw
            clear hSw hS
            go_simp
          simp only [Act.put, List.setIfInBounds_toArray, List.set_cons_zero, List.set_cons_succ]
          refine wpAnyH_take (i := 3) (oi := { dst := some 80, op := Go.Op.indexAddr 64 (Go.Operand.tmp 78) (Go.Operand.tmp 79), type := 0, pos := "law.go:93", after := #[{ on := 1, ground := Go.Ground.data }, { on := 2, ground := Go.Ground.data }], guard := none }) (v := .pointer (some ⟨gB, i, none⟩)) rfl (by kernel_rfl) (by kernel_rfl) (by kernel_rfl) (fun _ _ _ h => h) (Or.inl ⟨by kernel_rfl, ?_⟩) hS ?_
          · intro w5 hSw
            clear hSw hS
            go_simp
          simp only [Act.put, List.setIfInBounds_toArray, List.set_cons_zero, List.set_cons_succ]
          refine wpAnyH_take (i := 4) (oi := { dst := some 81, op := Go.Op.load 22 (Go.Operand.tmp 80), type := 22, pos := "law.go:93", after := #[{ on := 3, ground := Go.Ground.data }], guard := none }) (v := .slice y1 m1 z1) rfl (by kernel_rfl) (by kernel_rfl) (by kernel_rfl) (fun _ _ _ h => h) (Or.inl ⟨by kernel_rfl, ?_⟩) hS ?_
          · intro w5 hSw
            have h1 := hSw.1.1
            have h2 := hSw.1.2.1
            have h3 := hSw.1.2.2.1
            have h4 := hSw.1.2.2.2.1
            have h5 := hSw.1.2.2.2.2
            clear hSw hS
            go_simp
          simp only [Act.put, List.setIfInBounds_toArray, List.set_cons_zero, List.set_cons_succ]
          refine wpAnyH_take (i := 5) (oi := { dst := some 82, op := Go.Op.fieldAddr 71 (Go.Operand.tmp 1) 3, type := 0, pos := "law.go:93", after := #[], guard := none }) (v := .pointer (some ⟨w.heap.size, 3, none⟩)) rfl (by kernel_rfl) (by kernel_rfl) (by kernel_rfl) (fun _ _ _ h => h) (Or.inl ⟨by kernel_rfl, ?_⟩) hS ?_
          · intro w5 hSw
            clear hSw hS
            go_simp
          simp only [Act.put, List.setIfInBounds_toArray, List.set_cons_zero, List.set_cons_succ]
          refine wpAnyH_take (i := 6) (oi := { dst := some 83, op := Go.Op.load 64 (Go.Operand.tmp 82), type := 64, pos := "law.go:93", after := #[{ on := 5, ground := Go.Ground.data }], guard := none }) (v := .slice (some ⟨gM, 0, none⟩) n cM) rfl (by kernel_rfl) (by kernel_rfl) (by kernel_rfl) (fun _ _ _ h => h) (Or.inl ⟨by kernel_rfl, ?_⟩) hS ?_
          · intro w5 hSw
            have h1 := hSw.1.1
            have h2 := hSw.1.2.1
            have h3 := hSw.1.2.2.1
            have h4 := hSw.1.2.2.2.1
            have h5 := hSw.1.2.2.2.2
            clear hSw hS
            go_simp
          simp only [Act.put, List.setIfInBounds_toArray, List.set_cons_zero, List.set_cons_succ]
          refine wpAnyH_take (i := 7) (oi := { dst := some 84, op := Go.Op.move (Go.Operand.tmp 4), type := 3, pos := "law.go:93", after := #[], guard := none }) (v := .int .i64 (i : Int)) rfl (by kernel_rfl) (by kernel_rfl) (by kernel_rfl) (fun _ _ _ h => h) (Or.inl ⟨by kernel_rfl, ?_⟩) hS ?_
          · intro w5 hSw
            clear hSw hS
            go_simp
          simp only [Act.put, List.setIfInBounds_toArray, List.set_cons_zero, List.set_cons_succ]
          refine wpAnyH_take (i := 8) (oi := { dst := some 85, op := Go.Op.indexAddr 64 (Go.Operand.tmp 83) (Go.Operand.tmp 84), type := 0, pos := "law.go:93", after := #[{ on := 6, ground := Go.Ground.data }, { on := 7, ground := Go.Ground.data }], guard := none }) (v := .pointer (some ⟨gM, i, none⟩)) rfl (by kernel_rfl) (by kernel_rfl) (by kernel_rfl) (fun _ _ _ h => h) (Or.inl ⟨by kernel_rfl, ?_⟩) hS ?_
          · intro w5 hSw
            clear hSw hS
            go_simp
          simp only [Act.put, List.setIfInBounds_toArray, List.set_cons_zero, List.set_cons_succ]
          refine wpAnyH_take (i := 9) (oi := { dst := some 86, op := Go.Op.load 22 (Go.Operand.tmp 85), type := 22, pos := "law.go:93", after := #[{ on := 8, ground := Go.Ground.data }], guard := none }) (v := .slice y2 m2 z2) rfl (by kernel_rfl) (by kernel_rfl) (by kernel_rfl) (fun _ _ _ h => h) (Or.inl ⟨by kernel_rfl, ?_⟩) hS ?_
          · intro w5 hSw
            have h1 := hSw.1.1
            have h2 := hSw.1.2.1
            have h3 := hSw.1.2.2.1
            have h4 := hSw.1.2.2.2.1
            have h5 := hSw.1.2.2.2.2
            clear hSw hS
            go_simp
          simp only [Act.put, List.setIfInBounds_toArray, List.set_cons_zero, List.set_cons_succ]
          refine wpAnyH_take (i := 11) (oi := { dst := some 88, op := Go.Op.fieldAddr 71 (Go.Operand.tmp 1) 4, type := 0, pos := "law.go:93", after := #[], guard := none }) (v := .pointer (some ⟨w.heap.size, 4, none⟩)) rfl (by kernel_rfl) (by kernel_rfl) (by kernel_rfl) (fun _ _ _ h => h) (Or.inl ⟨by kernel_rfl, ?_⟩) hS ?_
          · intro w5 hSw
            clear hSw hS
            go_simp
          simp only [Act.put, List.setIfInBounds_toArray, List.set_cons_zero, List.set_cons_succ]
          refine wpAnyH_take (i := 12) (oi := { dst := some 89, op := Go.Op.load 5 (Go.Operand.tmp 88), type := 5, pos := "law.go:93", after := #[{ on := 11, ground := Go.Ground.data }], guard := none }) (v := .int .u8 (x.toNat : Int)) rfl (by kernel_rfl) (by kernel_rfl) (by kernel_rfl) (fun _ _ _ h => h) (Or.inl ⟨by kernel_rfl, ?_⟩) hS ?_
          · intro w5 hSw
            have h1 := hSw.1.1
            have h2 := hSw.1.2.1
            have h3 := hSw.1.2.2.1
            have h4 := hSw.1.2.2.2.1
            have h5 := hSw.1.2.2.2.2
            clear hSw hS
            go_simp
          simp only [Act.put, List.setIfInBounds_toArray, List.set_cons_zero, List.set_cons_succ]
          refine wpAnyH_take (i := 13) (oi := { dst := some 90, op := Go.Op.move (Go.Operand.tmp 4), type := 3, pos := "law.go:93", after := #[], guard := none }) (v := .int .i64 (i : Int)) rfl (by kernel_rfl) (by kernel_rfl) (by kernel_rfl) (fun _ _ _ h => h) (Or.inl ⟨by kernel_rfl, ?_⟩) hS ?_
          · intro w5 hSw
            clear hSw hS
            go_simp
          simp only [Act.put, List.setIfInBounds_toArray, List.set_cons_zero, List.set_cons_succ]
          refine wpAnyH_take (i := 14) (oi := { dst := some 91, op := Go.Op.convert 3 5 (Go.Operand.tmp 90), type := 5, pos := "law.go:93", after := #[{ on := 13, ground := Go.Ground.data }], guard := none }) (v := .int .u8 (i : Int)) rfl (by kernel_rfl) (by kernel_rfl) (by kernel_rfl) (fun _ _ _ h => h) (Or.inl ⟨by kernel_rfl, ?_⟩) hS ?_
          · intro w5 hSw
            clear hSw hS
            go_simp
          simp only [Act.put, List.setIfInBounds_toArray, List.set_cons_zero, List.set_cons_succ]
          refine wpAnyH_take (i := 15) (oi := { dst := some 92, op := Go.Op.binOp Go.BinOp.add 5 (Go.Operand.tmp 89) (Go.Operand.tmp 91) 5, type := 5, pos := "law.go:93", after := #[{ on := 12, ground := Go.Ground.data }, { on := 14, ground := Go.Ground.data }], guard := none }) (v := .int .u8 ((xi x i).toNat : Int)) rfl (by kernel_rfl) (by kernel_rfl) (by kernel_rfl) (fun _ _ _ h => h) (Or.inl ⟨by kernel_rfl, ?_⟩) hS ?_
          · intro w5 hSw
            clear hSw hS
            go_simp
          simp only [Act.put, List.setIfInBounds_toArray, List.set_cons_zero, List.set_cons_succ]
          refine wpAnyH_ready (rs := [10]) (by kernel_rfl) (by simp) ?_
          refine AllReadyH.cons (o := { dst := some 87, op := Go.Op.buildSlice 64 2 #[(0, Go.Operand.tmp 81), (1, Go.Operand.tmp 86)], type := 64, pos := "law.go:93", after := #[{ on := 4, ground := Go.Ground.data }, { on := 9, ground := Go.Ground.data }], guard := none }) rfl (fun K hK => ?_) AllReadyH.nil
          rw [if_pos (by kernel_rfl)]
          go_simp
          have u7 : Up wr (wr.alloc (Obj.cells #[.slice y1 m1 z1, .slice y2 m2 z2] 22)).drew := ((Up.refl wr).alloc _).drew
          have hS2 := And.intro (And.intro (u7.cell hS.1.1) (And.intro (u7.cell hS.1.2.1) (And.intro (u7.cell hS.1.2.2.1) (And.intro (u7.cell hS.1.2.2.2.1) (u7.cell hS.1.2.2.2.2))))) (HU1.out.trans u7)
          have HTw := Hid.of (show Two (wr.alloc (Obj.cells #[.slice y1 m1 z1, .slice y2 m2 z2] 22)).drew wr.heap.size (.slice y1 m1 z1) (.slice y2 m2 z2) (xi x i) (qs[i].1.bytes.length + 0) (qs[i].1.bytes.length + 1) from ⟨(World.cell?_drew _ _).trans (by rw [World.cell?_alloc_at _ _ _ _ rfl]; rfl), (World.cell?_drew _ _).trans (by rw [World.cell?_alloc_at _ _ _ _ rfl]; rfl), HSS.out.1.up u7, HSS.out.2.up u7⟩)
          clear hS u7
          refine hK.out _ _ hS2 (fun hS => ?_)
          clear hK hS2 K
          refine wpAnyH_ready (rs := [16]) (by kernel_rfl) (by simp) ?_
          refine AllReadyH.cons (o := { dst := some 93, op := Go.Op.call { callee := Go.Callee.value (Go.Operand.func 34), args := #[Go.Operand.tmp 87, Go.Operand.tmp 92], argTypes := #[64, 5] }, type := 4, pos := "law.go:93", after := #[{ on := 10, ground := Go.Ground.data }, { on := 15, ground := Go.Ground.data }], guard := none }) rfl (fun K hK => ?_) AllReadyH.nil
          rw [if_pos (by kernel_rfl)]
          go_simp
          refine (marked_walk wr.heap.size (.slice y1 m1 z1) (.slice y2 m2 z2) (xi x i) _ _ 2 _ HTw.out (by have := HLen.out; omega) (by have := HLen.out; omega)).mono ?_
          rintro e w9 ⟨rfl, hw9⟩
          obtain rfl := hw9.symm
          dsimp only
          refine hK.out _ _ hS (fun hS2 => ?_)
          clear hK hS2 K
          refine wpAnyH_take (i := 17) (oi := { dst := some 94, op := Go.Op.unOp Go.UnOp.not 4 (Go.Operand.tmp 93), type := 4, pos := "law.go:93", after := #[{ on := 16, ground := Go.Ground.data }], guard := none }) (v := .bool false) rfl (by kernel_rfl) (by kernel_rfl) (by kernel_rfl) (fun _ _ _ h => h) (Or.inl ⟨by kernel_rfl, ?_⟩) hS ?_
          · intro w5 hSw
            clear hSw hS
            go_simp
          simp only [Act.put, List.setIfInBounds_toArray, List.set_cons_zero, List.set_cons_succ]
          have HU9 := Hid.of hS.2
          clear hS HTw HSS HKB
          refine wpAnyH_done (by kernel_rfl) ?_ _
          generalize (wr.alloc (Obj.cells #[.slice y1 m1 z1, .slice y2 m2 z2] 22)).drew = w9 at *
          go_wp2
          go_roundw
          case rel => exact ⟨i + 1, by go_num, by omega, HU9⟩
          case measure => simp [intOf]; omega
        · have hlt' : ¬ (i : Int) < (n : Int) := by omega
          go_wp2
          go_ret
          exact ⟨rfl, HU0.out.trans hI.out⟩
end
section
open Go.RowKit TextNum
set_option maxRecDepth 100000 in
set_option maxHeartbeats 4000000 in
theorem filled_nil (x : UInt8) (w : World) :
    Calls Tryd.prog 38 #[.slice none 0 0, .int .u8 (x.toNat : Int)] w fun e w' => ∃ vL vB vM, e = .returned (.agg #[.slice none 0 0, vL, vB, vM, .int .u8 (x.toNat : Int)]) ∧ Brs w' (.slice none 0 0) vL vB vM x [] ∧ Up w w' := by
  have hx0 : x.toNat < 256 := x.toNat_lt
  have hwx : IntKind.u32.wrap (x.toNat : Int) = (x.toNat : Int) := by simp only [IntKind.wrap, IntKind.signed, IntKind.bits]; simp; omega
  have hz : (w.alloc (Obj.cells #[.slice none 0 0, .slice none 0 0, .slice none 0 0, .slice none 0 0, .int .u8 0] 71)).heap.size = w.heap.size + 1 := by simp
  have hu : Up w ((w.alloc (Obj.cells #[.slice none 0 0, .slice none 0 0, .slice none 0 0, .slice none 0 0, .int .u8 0] 71)).alloc (Obj.cells #[.slice none 0 0, .slice none 0 0, .slice none 0 0, .slice none 0 0, .int .u8 (x.toNat : Int)] 71)) := ((Up.refl w).alloc _).alloc _
  have hz2 : ((w.alloc (Obj.cells #[.slice none 0 0, .slice none 0 0, .slice none 0 0, .slice none 0 0, .int .u8 0] 71)).alloc (Obj.cells #[.slice none 0 0, .slice none 0 0, .slice none 0 0, .slice none 0 0, .int .u8 (x.toNat : Int)] 71)).heap.size = w.heap.size + 2 := by simp
  have hc := cells_new (w.alloc (Obj.cells #[.slice none 0 0, .slice none 0 0, .slice none 0 0, .slice none 0 0, .int .u8 0] 71)) 71 [.slice none 0 0, .slice none 0 0, .slice none 0 0, .slice none 0 0, .int .u8 (x.toNat : Int)]
  have ht := there_new (w.alloc (Obj.cells #[.slice none 0 0, .slice none 0 0, .slice none 0 0, .slice none 0 0, .int .u8 0] 71)) [.slice none 0 0, .slice none 0 0, .slice none 0 0, .slice none 0 0, .int .u8 (x.toNat : Int)] 71
  rw [hz] at hc ht
  have hr : ((w.alloc (Obj.cells #[.slice none 0 0, .slice none 0 0, .slice none 0 0, .slice none 0 0, .int .u8 0] 71)).alloc (Obj.cells #[.slice none 0 0, .slice none 0 0, .slice none 0 0, .slice none 0 0, .int .u8 (x.toNat : Int)] 71)).there w.heap.size 0 5 := there_up (there_new w [.slice none 0 0, .slice none 0 0, .slice none 0 0, .slice none 0 0, .int .u8 0] 71) (by simp) ((Up.refl _).alloc _)
  have HW := Hid.of (show Up w ((w.alloc (Obj.cells #[.slice none 0 0, .slice none 0 0, .slice none 0 0, .slice none 0 0, .int .u8 0] 71)).alloc (Obj.cells #[.slice none 0 0, .slice none 0 0, .slice none 0 0, .slice none 0 0, .int .u8 (x.toNat : Int)] 71)) ∧ ((w.alloc (Obj.cells #[.slice none 0 0, .slice none 0 0, .slice none 0 0, .slice none 0 0, .int .u8 0] 71)).alloc (Obj.cells #[.slice none 0 0, .slice none 0 0, .slice none 0 0, .slice none 0 0, .int .u8 (x.toNat : Int)] 71)).heap.size = w.heap.size + 2 ∧ (∀ j y, ([.slice none 0 0, .slice none 0 0, .slice none 0 0, .slice none 0 0, .int .u8 (x.toNat : Int)] : List Value)[j]? = some y → ((w.alloc (Obj.cells #[.slice none 0 0, .slice none 0 0, .slice none 0 0, .slice none 0 0, .int .u8 0] 71)).alloc (Obj.cells #[.slice none 0 0, .slice none 0 0, .slice none 0 0, .slice none 0 0, .int .u8 (x.toNat : Int)] 71)).cell? ⟨w.heap.size + 1, j, none⟩ = some y) ∧ ((w.alloc (Obj.cells #[.slice none 0 0, .slice none 0 0, .slice none 0 0, .slice none 0 0, .int .u8 0] 71)).alloc (Obj.cells #[.slice none 0 0, .slice none 0 0, .slice none 0 0, .slice none 0 0, .int .u8 (x.toNat : Int)] 71)).there (w.heap.size + 1) 0 5 ∧ ((w.alloc (Obj.cells #[.slice none 0 0, .slice none 0 0, .slice none 0 0, .slice none 0 0, .int .u8 0] 71)).alloc (Obj.cells #[.slice none 0 0, .slice none 0 0, .slice none 0 0, .slice none 0 0, .int .u8 (x.toNat : Int)] 71)).there w.heap.size 0 5 from ⟨hu, hz2, fun j y hj => by have := hc j y hj; rwa [add_plain, Nat.zero_add] at this, ht, hr⟩)
  clear hu hz hz2 hc ht hr
  go_enter Tryd.func38, Tryd.ntmps38
  go_wp2
  generalize ((w.alloc (Obj.cells #[.slice none 0 0, .slice none 0 0, .slice none 0 0, .slice none 0 0, .int .u8 0] 71)).alloc (Obj.cells #[.slice none 0 0, .slice none 0 0, .slice none 0 0, .slice none 0 0, .int .u8 (x.toNat : Int)] 71)) = w1 at *
  go_loopw [6, 7] (fun v6 _ wr => v6 = .int .i64 0 ∧ wr = w1) (fun _ _ _ => 0)
  case atStart => exact ⟨rfl, rfl⟩
  case round =>
    obtain ⟨rfl, hwr⟩ := hrel
    obtain rfl : w1 = wr := hwr.symm
    clear hwr
    go_wp2
    go_loopw [8, 9] (fun v8 _ wr => v8 = .int .i64 0 ∧ wr = w1) (fun _ _ _ => 0)
    case atStart => exact ⟨rfl, rfl⟩
    case round =>
      obtain ⟨rfl, hwr⟩ := hrel
      obtain rfl : w1 = wr := hwr.symm
      clear hwr
      go_wp2
      go_loopw [10] (fun v10 wr => v10 = .int .i64 0 ∧ wr = w1) (fun _ _ => 0)
      case atStart => exact ⟨rfl, rfl⟩
      case round =>
        obtain ⟨rfl, hwr⟩ := hrel
        obtain rfl : w1 = wr := hwr.symm
        clear hwr
        go_wp2_with (with_reducible show wpList _ _ _ ({ dst := _, op := Op.call { callee := Callee.builtin Builtin.append, args := _, argTypes := _ }, type := _, pos := _, after := _, guard := _ } :: _) _ _; refine Shut.out ?_)
        show wpList _ _ _ _ _ _
        have hu1 : Up w1 (w1.alloc (Obj.cells #[.string ⟨#[35]⟩, .int .u32 (x.toNat : Int), .slice none 0 0] 42)) := (Up.refl w1).alloc _
        refine wpList_appOld rfl _ _ rfl (w.heap.size + 2) _ [] (hq x.toNat) rfl (ownG_nil7 _ _ _) ⟨w1.heap.size, 0, none⟩ 1 rfl (fun k u hk => cells_new w1 42 (qc (hq x.toNat)) k u hk) ⟨none, 0, rfl, Nat.le_refl _, .inl rfl⟩ (fun b hb => (by cases hb)) (by simp) (by have h1 := HW.out.2.1; have h2 := hu1.size; omega) ?_
        intro vL w4 o4 g4 s4 ov
        simp only [Act.put, List.setIfInBounds_toArray, List.set_cons_zero, List.set_cons_succ]
        have hL0 := o4.sigL
        have hge : ∀ b, vL.ownBlock = some b → w.heap.size + 2 ≤ b := fun b hb => (World.ownsRow.lt o4.1 b hb).1
        have hk := fun (p : Addr) (y : Value) (h : w1.cell? p = some y) => cell_by (hu1.cell h) g4 (by intro e; cases e)
        have hup : Up w1 w4 := ⟨g4.os.trans hu1.os, g4.tape.trans hu1.tape, g4.output.trans hu1.output, Nat.le_trans hu1.size g4.size, fun k hk => (g4.block k (Nat.lt_of_lt_of_le hk hu1.size) (by intro e; cases e)).trans (hu1.block k hk)⟩
        obtain ⟨aL, nL, cL, eL⟩ : ∃ aL nL cL, vL = .slice aL nL cL := by
          obtain ⟨aL, cL, e, _⟩ := hL0
          exact ⟨_, _, _, e⟩
        subst eL
        have d0 := hk _ _ (HW.out.2.2.1 0 _ rfl)
        have d1 := hk _ _ (HW.out.2.2.1 1 _ rfl)
        have d2 := hk _ _ (HW.out.2.2.1 2 _ rfl)
        have d3 := hk _ _ (HW.out.2.2.1 3 _ rfl)
        have d4 := hk _ _ (HW.out.2.2.1 4 _ rfl)
        have th4 := there_up HW.out.2.2.2.1 (by have := HW.out.2.1; omega) hup
        have tr4 := there_up HW.out.2.2.2.2 (by have := HW.out.2.1; omega) hup
        have HE := Hid.of (show SigL w4 (.slice aL nL cL) (List.replicate 1 (hq x.toNat).1) ∧ Up w w4 ∧ (∀ b, (Value.slice aL nL cL).ownBlock = some b → w.heap.size + 2 ≤ b) ∧ w.heap.size + 2 ≤ w4.heap.size from ⟨hL0, HW.out.1.trans hup, hge, by have := hup.size; have := HW.out.2.1; omega⟩)
        have hfr := (th4 1 (by decide)).2
        rw [Nat.zero_add] at hfr
        have g5 : w4.grownBy (w4.setCell ⟨w.heap.size + 1, 1, none⟩ (.slice aL nL cL)) (some (w.heap.size + 1)) := grown_set w4 ⟨w.heap.size + 1, 1, none⟩ _
        have out : ∀ k y, k ≠ 1 → w4.cell? ⟨w.heap.size + 1, k, none⟩ = some y → (w4.setCell ⟨w.heap.size + 1, 1, none⟩ (.slice aL nL cL)).cell? ⟨w.heap.size + 1, k, none⟩ = some y := fun k y hk h => (World.cell?_setCells_out (w.heap.size + 1) [.slice aL nL cL] 1 w4 _ (fun _ _ => by simp; omega)).trans h
        have e0 := out 0 _ (by decide) d0
        have e2 := out 2 _ (by decide) d2
        have e3 := out 3 _ (by decide) d3
        have e4 := out 4 _ (by decide) d4
        have e1 : (w4.setCell ⟨w.heap.size + 1, 1, none⟩ (.slice aL nL cL)).cell? ⟨w.heap.size + 1, 1, none⟩ = some (.slice aL nL cL) := World.rangeAt_setCells_same w4 (w.heap.size + 1) 1 [.slice aL nL cL] (fun k hk => by obtain rfl : k = 0 := (by simpa using hk); have := th4 1 (by decide); rw [Nat.zero_add] at this; exact this) 0 _ rfl
        have HG5 := Hid.of g5
        have HTR := Hid.of (there_by tr4 (by have := HE.out.2.2.2; omega) g5 (by intro e; injection e with e; omega))
        clear g5 out d0 d2 d3 d4 hL0 s4 ov o4 g4 hge hk hup th4 tr4 hu1
        go_wp2_with (with_reducible show wpList _ _ _ ({ dst := _, op := Op.store 71 (.tmp 4) _, type := _, pos := _, after := _, guard := _ } :: _) _ _; refine Shut.out ?_)
        show wpList _ _ _ _ _ _
        refine wpList_store_mid rfl _ _ _ rfl w.heap.size 0 #[.slice none 0 0, .slice aL nL cL, .slice none 0 0, .slice none 0 0, .int .u8 (x.toNat : Int)] rfl rfl (by exact HTR.out) infoH7 (by simp [Value.oneCell']) ?_
        simp only [Act.put]
        have hrg := World.rangeAt_setCells_same (w4.setCell ⟨w.heap.size + 1, 1, none⟩ (.slice aL nL cL)) w.heap.size 0 [.slice none 0 0, .slice aL nL cL, .slice none 0 0, .slice none 0 0, .int .u8 (x.toNat : Int)] (by exact HTR.out)
        have HG6 := Hid.of (grown_setC (w4.setCell ⟨w.heap.size + 1, 1, none⟩ (.slice aL nL cL)) w.heap.size [.slice none 0 0, .slice aL nL cL, .slice none 0 0, .slice none 0 0, .int .u8 (x.toNat : Int)] 0 _ (grown_refl _ _))
        generalize (w4.setCell ⟨w.heap.size + 1, 1, none⟩ (.slice aL nL cL)).setCells w.heap.size 0 [.slice none 0 0, .slice aL nL cL, .slice none 0 0, .slice none 0 0, .int .u8 (x.toNat : Int)] = wZ at *
        generalize w4.setCell ⟨w.heap.size + 1, 1, none⟩ (.slice aL nL cL) = w6 at *
        go_wp2_with fail
        refine bodyPost_ret (result_cell1 Tryd.results38 _ _ w.heap.size [.slice none 0 0, .slice aL nL cL, .slice none 0 0, .slice none 0 0, .int .u8 (x.toNat : Int)] rfl hrg Tryd.underlying71 rfl infoH7) rfl ?_
        obtain ⟨f1, f2, f3, f4⟩ := HE.out
        refine ⟨_, _, _, rfl, ⟨⟨none, 0, rfl, Nat.le_refl _, .inl rfl⟩, sig_by (sig_by f1 HG5.out (fun b hb e => by injection e with e; have := f3 b hb; omega)) HG6.out (fun b hb e => by injection e with e; have := f3 b hb; omega), ⟨none, 0, rfl, fun i u h => by simp at h⟩, [], rfl, ⟨none, 0, rfl, fun i u h => by simp at h⟩, fun k h => absurd h (Nat.not_lt_zero _)⟩, ?_⟩
        have k1 := (Kept.refl w.heap.size w.heap.size w).up f2
        exact ((k1.by HG5.out (fun r hr => .inr (by injection hr with hr; omega))).by HG6.out (fun r hr => .inr (by injection hr with hr; omega))).toUp (Up.refl w) (Nat.le_refl _)
end
section
open Go.RowKit TextNum
theorem fr_eq {t : ByteArray} {ss : List Sg} {e e' : Int} (h : FR t ss e) (h' : FR t ss e') : e = e' := by
  rcases h with ⟨rfl, h⟩ | ⟨rfl, h, k⟩ | ⟨rfl, h, k⟩ <;> rcases h' with ⟨rfl, h'⟩ | ⟨rfl, h', k'⟩ | ⟨rfl, h', k'⟩ <;> first | rfl | exact absurd h h' | exact absurd h' h | exact absurd k' k | exact absurd k k'
theorem sr_eq {m : List UInt8} {t t' : ByteArray} {ss ss' : List Sg} {e e' : Int} (h : SR m t ss e) (h' : SR m t' ss' e') : e = e' ∧ (e = 0 → t = t' ∧ ss = ss') := by
  rcases h with ⟨rfl, h⟩ | ⟨rfl, h, k⟩ | ⟨rfl, h, k⟩ <;> rcases h' with ⟨rfl, h'⟩ | ⟨rfl, h', k'⟩ | ⟨rfl, h', k'⟩
  · exact ⟨rfl, fun h => (by cases h)⟩
  · omega
  · omega
  · omega
  · exact ⟨rfl, fun h => (by cases h)⟩
  · exact absurd ⟨t', ss', k'⟩ k
  · omega
  · exact absurd ⟨t, ss, k⟩ k'
  · exact ⟨rfl, fun _ => spl_one k k'⟩
/-- what both sides' Format answer -/
theorem fb_two {t : ByteArray} {ss : List Sg} {B B' : Nat} {w w' : World} {v v' : Value} {er : Int} (hf : FR t ss er) (h : er = 0 → OwnM w B v (fmtN t.data.toList ss)) (hn : er ≠ 0 → v = .slice none 0 0) (h' : er = 0 → OwnM w' B' v' (fmtN t.data.toList ss)) (hn' : er ≠ 0 → v' = .slice none 0 0) :
    OwnO w B v (if er = 0 then fmtN t.data.toList ss else []) ∧ OwnO w' B' v' (if er = 0 then fmtN t.data.toList ss else []) ∧ (if er = 0 then fmtN t.data.toList ss else []).length ≤ 65536 := by
  by_cases he : er = 0
  · rw [if_pos he]
    refine ⟨.inr (h he).n, .inr (h' he).n, ?_⟩
    subst he
    have hL := (fr_fine8 hf).1
    unfold Lng at hL
    have := fmtN_len t ss
    omega
  · rw [if_neg he]
    exact ⟨.inl ⟨hn he, rfl⟩, .inl ⟨hn' he, rfl⟩, Nat.zero_le _⟩
theorem OwnO.sl {w : World} {B : Nat} {v : Value} {l : List UInt8} (h : OwnO w B v l) : Sl w v l := by
  rcases h with ⟨rfl, rfl⟩ | h
  · exact ⟨none, 0, rfl, Nat.le_refl _, .inl rfl⟩
  · exact h.sl
theorem OwnO.up {w w' : World} {B : Nat} {v : Value} {l : List UInt8} (h : OwnO w B v l) (u : Up w w') : OwnO w' B v l := h.elim .inl (fun h => .inr (h.up u))
theorem OwnO.lt {w : World} {B : Nat} {v : Value} {l : List UInt8} (h : OwnO w B v l) : ∀ b, v.ownBlock = some b → B ≤ b ∧ b < w.heap.size := by
  rcases h with ⟨rfl, _⟩ | h
  · intro b hb; cases hb
  · exact h.lt
theorem up_own {w0 w w' : World} {v : Value} (u : Up w0 w) (g : w.grownBy w' v.ownBlock) (h : ∀ b, v.ownBlock = some b → w0.heap.size ≤ b) : Up w0 w' := ⟨g.os.trans u.os, g.tape.trans u.tape, g.output.trans u.output, Nat.le_trans u.size g.size, fun k hk => (g.block k (Nat.lt_of_lt_of_le hk u.size) (fun e => by have := h k e.symm; omega)).trans (u.block k hk)⟩
theorem Cp.sigL {w : World} {B : Nat} {v : Value} {ss : List Sg} (h : Cp w B v ss) : SigL w v ss := by
  obtain ⟨qs, h1, h2, _⟩ := h
  rw [← h2]
  exact h1.sigL
/-- a list that was made behind hi stays -/
theorem OwnG.kept {lo hi B : Nat} {w w' : World} {e : TypeId} {v : Value} {qs : List (Sg × Option Addr × Nat)} (h : OwnG w B e v qs) (hB : hi ≤ B) (hq : ∀ q, q ∈ qs → ∀ b, (qv q).ownBlock = some b → hi ≤ b) (k : Kept lo hi w w') : OwnG w' B e v qs := by
  refine ⟨⟨h.1.1, ?_⟩, fun q hq' => ⟨?_, fun b hb => ⟨Nat.lt_of_lt_of_le ((h.2 q hq').2 b hb).1 k.size, ((h.2 q hq').2 b hb).2⟩⟩⟩
  · rcases h.1.2 with h | ⟨g, cap, cur, e, hb, hg, r⟩
    · exact .inl h
    · refine .inr ⟨g, cap, cur, e, hb, ?_, r⟩
      rw [k.block g (Array.getElem?_eq_some_iff.1 hg).1 (.inr (by omega))]; exact hg
  · obtain ⟨a, c, e, hc, hd⟩ := (h.2 q hq').1
    refine ⟨a, c, e, hc, ?_⟩
    rcases hd with hd | ⟨b, off, e2, hb, hd⟩
    · exact .inl hd
    · have hbk := k.block b hb (.inr (hq q hq' b (by rw [e, e2]; rfl)))
      exact .inr ⟨b, off, e2, Nat.lt_of_lt_of_le hb k.size, fun i hi => by rw [World.cell?_of_block hbk]; exact hd i hi⟩
end
section
open Go.RowKit TextNum
/-- what the law is given -/
structure Gv7 (w : World) (s : ByteArray) (v2 v3 : Value) (ss : List Sg) (m : List UInt8) : Prop where
  sg : SigL w v2 ss
  ms : Sl w v3 m
  hs : s.size ≤ 1048576
  hl : ss.length ≤ 1048576
  hb : ∀ x, x ∈ ss → x.name.size ≤ 1048576 ∧ x.bytes.length ≤ 1048576
  hm : m.length ≤ 1048576
  hh : Hsh ss
  tl : TabL w
  wt : Go.Lib.WhiteTab 3 w
  bt : BTab w
theorem Gv7.up {w w' : World} {s : ByteArray} {v2 v3 : Value} {ss : List Sg} {m : List UInt8} (h : Gv7 w s v2 v3 ss m) (u : Up w w') : Gv7 w' s v2 v3 ss m := ⟨h.sg.up u, h.ms.up u, h.hs, h.hl, h.hb, h.hm, h.hh, h.tl.up u, WhiteTab_up h.wt u, BTab_up h.bt u⟩
theorem Gv7.bds {w : World} {s : ByteArray} {v2 v3 : Value} {ss : List Sg} {m : List UInt8} (h : Gv7 w s v2 v3 ss m) : Bds ss := fun x hx => by have := h.hb x hx; omega
theorem sr_small {m : List UInt8} {t : ByteArray} {ss : List Sg} {er : Int} (h : SR m t ss er) (hn : er ≠ 0 → ss = []) : ss.length ≤ 16 ∧ ∀ x, x ∈ ss → x.bytes.length ≤ 65536 := by
  by_cases he : er = 0
  · subst he
    rcases h with ⟨h, _⟩ | ⟨h, _⟩ | ⟨_, h1, h2⟩
    · cases h
    · cases h
    · have hL := (spl_fmt h2 h1).1
      unfold Lng at hL
      simp only [not_or, Nat.not_lt] at hL
      refine ⟨hL.1, fun x hx => ?_⟩
      have h3 := sgLen_le hx
      have h4 := hL.2
      unfold nlen at h4
      unfold sgLen at h3
      omega
  · rw [hn he]
    exact ⟨by simp, fun x hx => (by cases hx)⟩
theorem sr_same {m : List UInt8} {t t' : ByteArray} {ss ss' : List Sg} {e e' : Int} (h : SR m t ss e) (h' : SR m t' ss' e') (hn : e ≠ 0 → t = ⟨#[]⟩ ∧ ss = []) (hn' : e' ≠ 0 → t' = ⟨#[]⟩ ∧ ss' = []) : e = e' ∧ t = t' ∧ ss = ss' := by
  obtain ⟨rfl, k⟩ := sr_eq h h'
  by_cases he : e = 0
  · exact ⟨rfl, k he⟩
  · exact ⟨rfl, by rw [(hn he).1, (hn' he).1], by rw [(hn he).2, (hn' he).2]⟩
set_option maxRecDepth 100000 in
set_option maxHeartbeats 8000000 in
theorem noteForms_walk (s : ByteArray) (v2 v3 : Value) (ss : List Sg) (m : List UInt8) (w : World) (hG : Gv7 w s v2 v3 ss m) :
    Calls Tryd.prog 7 #[.string s, v2, v3] w fun e w' => e = .returned (.bool true) ∧ Up w w' := by
  obtain ⟨a3, c3, e3, _⟩ := id hG.ms
  subst e3
  obtain ⟨mm, hmm⟩ : ∃ mm, m.length = mm := ⟨_, rfl⟩
  rw [hmm] at hG ⊢
  have HG := Hid.of hG
  clear hG
  go_enter Tryd.func7, Tryd.ntmps7
  go_wp2_with fail
  refine (copied_walk v2 ss w HG.out.sg HG.out.hl (fun x hx => (HG.out.hb x hx).2)).mono ?_
  rintro e w1 ⟨vm, rfl, hcp, u1⟩
  have H1 := Hid.of (And.intro hcp u1)
  clear hcp u1
  dsimp only
  go_wp2_with fail
  refine (Format_walkM s (by have := HG.out.hs; omega) vm ss w1 H1.out.1.sigL HG.out.bds HG.out.hh (HG.out.up H1.out.2).tl (HG.out.up H1.out.2).wt).mono ?_
  rintro e w2 ⟨vb, er, rfl, hfr, ho, hnil, u2⟩
  have H2 := Hid.of (And.intro hfr (And.intro ho (And.intro hnil u2)))
  clear hfr ho hnil u2
  dsimp only
  go_wp2_with fail
  refine (theirs_walk v2 ss w2 (HG.out.up (H1.out.2.trans H2.out.2.2.2)).sg HG.out.hl (fun x hx => (HG.out.hb x hx).2)).mono ?_
  rintro e w3 ⟨vr, rfl, hsg, u3⟩
  have H3 := Hid.of (And.intro hsg u3)
  clear hsg u3
  dsimp only
  go_wp2_with fail
  refine (RFmtN_walkM s (by have := HG.out.hs; omega) vr ss w3 H3.out.1 HG.out.bds HG.out.hh (HG.out.up ((H1.out.2.trans H2.out.2.2.2).trans H3.out.2)).bt).mono ?_
  rintro e w4 ⟨vc, er', rfl, hfr, ho, hnil, u4⟩
  obtain rfl := fr_eq H2.out.1 hfr
  have htw := fb_two hfr H2.out.2.1 H2.out.2.2.1 ho hnil
  obtain ⟨lb, HLB⟩ : ∃ lb, Hid ((if er = 0 then fmtN s.data.toList ss else []) = lb) := ⟨_, Hid.of rfl⟩
  rw [HLB.out] at htw
  have H4 := Hid.of (show OwnO w2 w1.heap.size vb lb ∧ OwnO w4 w3.heap.size vc lb ∧ lb.length ≤ 65536 ∧ Up w1 w2 ∧ Up w2 w4 ∧ w2.heap.size ≤ w3.heap.size ∧ Up w w4 from ⟨htw.1, htw.2.1, htw.2.2, H2.out.2.2.2, H3.out.2.trans u4, H3.out.2.size, ((H1.out.2.trans H2.out.2.2.2).trans H3.out.2).trans u4⟩)
  have HFR := Hid.of hfr
  clear hfr ho hnil u4 htw H2 H3
  have hv1 := conv_sl (H4.out.1.sl.up H4.out.2.2.2.2.1)
  have hv2 := conv_sl H4.out.2.1.sl
  obtain ⟨q, HQ⟩ : ∃ q : ByteArray, Hid (vs lb = .string q) := ⟨_, Hid.of rfl⟩
  rw [HQ.out] at hv1 hv2
  dsimp only
  go_wp2_with fail
  refine (num7 er w4).mono ?_
  rintro e w4' ⟨rfl, hw⟩
  obtain rfl := hw.symm
  clear hv1 hv2
  dsimp only
  go_wp2_with fail
  refine (theirs_walk v2 ss w4 (HG.out.up H4.out.2.2.2.2.2.2).sg HG.out.hl (fun x hx => (HG.out.hb x hx).2)).mono ?_
  rintro e w5 ⟨vr5, rfl, hsg, u5⟩
  have H5 := Hid.of (And.intro hsg u5)
  clear hsg u5
  dsimp only
  go_wp2_with fail
  refine (alike_walk vm vr5 ss w5 (H1.out.1.sigL.up ((H4.out.2.2.2.1.trans H4.out.2.2.2.2.1).trans H5.out.2)) H5.out.1 HG.out.hl).mono ?_
  rintro e w6 ⟨rfl, u6⟩
  have H6 := Hid.of (show Up w4 w6 ∧ Up w1 w6 ∧ Up w w6 from ⟨H5.out.2.trans u6, (H4.out.2.2.2.1.trans H4.out.2.2.2.2.1).trans (H5.out.2.trans u6), H4.out.2.2.2.2.2.2.trans (H5.out.2.trans u6)⟩)
  clear u6 H5
  obtain ⟨qs, hqs, hqm, hsp⟩ := H1.out.1
  have HC := Hid.of (And.intro hqs (And.intro hqm hsp))
  clear hqs hsp
  obtain ⟨n, hnn⟩ : ∃ n, qs.length = n := ⟨_, rfl⟩
  have hnb : n ≤ 1048576 := by
    have h1 := HG.out.hl
    rw [← HC.out.2.1, List.length_map, hnn] at h1
    exact h1
  obtain ⟨av, cv, hvm⟩ : ∃ av cv, vm = .slice av n cv := by
    obtain ⟨a', c', e, _⟩ := HC.out.1.sigL
    exact ⟨a', c', by rw [e, List.length_map, hnn]⟩
  subst hvm
  dsimp only
  go_wp2
  go_loopw [12, 13, 14] (fun v12 _ _ wr => ∃ i : Nat, v12 = .int .i64 (i : Int) ∧ i ≤ n ∧ wr = w6) (fun v12 _ _ _ => n - (intOf v12).toNat)
  case atStart => exact ⟨0, rfl, by omega, rfl⟩
  case round =>
    obtain ⟨i, rfl, hi, hwr⟩ := hrel
    obtain rfl : w6 = wr := hwr.symm
    clear hwr
    by_cases hlt : i < n
    · have hlt' : (i : Int) < (n : Int) := by omega
      have hltS : i < qs.length := by omega
      have hrow := (HC.out.1.up H6.out.2.1).1
      obtain ⟨g, rfl⟩ : ∃ g, av = some ⟨g, 0, none⟩ := by
        rcases hrow.2 with ⟨e, h0⟩ | ⟨g, cap, cur, e, _⟩
        · omega
        · injection e with e1 _ _
          exact ⟨g, e1⟩
      have kr := row_cell (by rw [← hnn] at hrow; exact hrow) i hltS
      obtain ⟨gk, e1, e2, e3⟩ := (HC.out.2.2 _ (List.getElem_mem hltS)).up H6.out.2.1
      have hq2 : qv qs[i] = .slice (some ⟨gk, 0, none⟩) qs[i].1.bytes.length (qs[i].1.bytes.length + 2) := by unfold qv; rw [e1, e2]
      rw [hq2] at kr
      have hsl := e3.sl
      obtain ⟨l, hll⟩ : ∃ l, qs[i].1.bytes.length = l := ⟨_, rfl⟩
      have k1 : w6.cell? ⟨gk, l, none⟩ = some (.int .u8 193) := by
        obtain ⟨a', c', e, _, hd⟩ := hsl
        injection e with e4 _ _
        rcases hd with h | ⟨b, off, e5, _, hd⟩
        · simp at h
        · rw [← e4] at e5
          injection e5 with e5
          injection e5 with e5 e6 _
          subst e5 e6
          have := hd l (by rw [List.length_append, hll]; simp)
          rw [Nat.zero_add, List.getElem_append_right (by omega)] at this
          simpa [hll] using this
      have k2 : w6.cell? ⟨gk, l + 1, none⟩ = some (.int .u8 194) := by
        obtain ⟨a', c', e, _, hd⟩ := hsl
        injection e with e4 _ _
        rcases hd with h | ⟨b, off, e5, _, hd⟩
        · simp at h
        · rw [← e4] at e5
          injection e5 with e5
          injection e5 with e5 e6 _
          subst e5 e6
          have := hd (l + 1) (by rw [List.length_append, hll]; simp)
          rw [Nat.zero_add, List.getElem_append_right (by omega)] at this
          simpa [hll] using this
      rw [hll] at kr
      have hlb : l ≤ 1048576 := by
        have h1 := HG.out.hb qs[i].1 (by rw [← HC.out.2.1]; exact List.mem_map.2 ⟨_, List.getElem_mem hltS, rfl⟩)
        omega
      clear hsl e1 e2 e3 hq2 hrow hll
      have hw1 : IntKind.i64.wrap ((l : Int) + 2) = ((l + 2 : Nat) : Int) := by simp only [IntKind.wrap, IntKind.signed, IntKind.bits]; simp; omega
      have hw2 : IntKind.i64.wrap ((l : Int) + 1) = ((l + 1 : Nat) : Int) := by simp only [IntKind.wrap, IntKind.signed, IntKind.bits]; simp; omega
      have p1 : (l : Int) < ((l + 2 : Nat) : Int) := by omega
      have p2 : ((l + 1 : Nat) : Int) < ((l + 2 : Nat) : Int) := by omega
      have p3 : (l : Int) < (l : Int) + 2 := by omega
      have p4 : (l : Int) + 1 < (l : Int) + 2 := by omega
      go_wp2
      go_roundw
      case rel => exact ⟨i + 1, by go_num, by omega, by simp⟩
      case measure => simp [intOf]; omega
    have hlt' : ¬ (i : Int) < (n : Int) := by omega
    go_wp2_with fail
    refine (owned_walk w1.heap.size vb lb 9 w6 (H4.out.1.up (H4.out.2.2.2.2.1.trans H6.out.1)) (by have := H4.out.2.2.1; omega)).mono ?_
    rintro e w7 ⟨b1, x1, rfl, _, ht1, hg1⟩
    have H7 := Hid.of (show Two w7 b1 vb x1 9 lb.length (lb.length + 1) ∧ Sl w7 vc lb ∧ Up w1 w7 from ⟨ht1, (H4.out.2.1.sl.up H6.out.1).by7 hg1 (fun r hr e => by have h1 := (H4.out.1.lt r hr).2; have h2 := (H4.out.2.1.lt r e).1; have h3 := H4.out.2.2.2.2.2.1; omega), up_own H6.out.2.1 hg1 (fun b hb => (H4.out.1.lt b hb).1)⟩)
    have HU7 := Hid.of (H1.out.2.trans H7.out.2.2)
    clear ht1 hg1
    dsimp only
    go_wp2_with fail
    refine (Format_walkM s (by have := HG.out.hs; omega) _ ss w7 (H1.out.1.up H7.out.2.2).sigL HG.out.bds HG.out.hh (HG.out.up HU7.out).tl (HG.out.up HU7.out).wt).mono ?_
    rintro e w8 ⟨vb8, er8, rfl, hfr, ho, hnil, u8⟩
    obtain rfl := fr_eq HFR.out hfr
    have htw := fb_two hfr ho hnil ho hnil
    rw [HLB.out] at htw
    have H8 := Hid.of (And.intro htw.1 u8)
    clear hfr ho hnil htw u8
    have hv1 := conv_sl H8.out.1.sl
    have hv2 := conv_sl (H7.out.2.1.up H8.out.2)
    rw [HQ.out] at hv1 hv2
    dsimp only
    go_wp2_with fail
    clear hv1 hv2
    refine (owned_walk w7.heap.size vb8 lb 8 w8 H8.out.1 (by have := H4.out.2.2.1; omega)).mono ?_
    rintro e w9 ⟨b2, x2, rfl, _, ht2, hg2⟩
    have H9 := Hid.of (show Two w9 b2 vb8 x2 8 lb.length (lb.length + 1) ∧ Up w7 w9 from ⟨ht2, up_own H8.out.2 hg2 (fun b hb => (H8.out.1.lt b hb).1)⟩)
    have HU9 := Hid.of (HU7.out.trans H9.out.2)
    clear ht2 hg2
    dsimp only
    go_wp2_with fail
    refine (marked_walk b1 vb x1 9 _ _ 2 w9 (H7.out.1.up H9.out.2) (by have := H4.out.2.2.1; omega) (by have := H4.out.2.2.1; omega)).mono ?_
    rintro e w9' ⟨rfl, hw⟩
    obtain rfl := hw.symm
    dsimp only
    go_wp2_with fail
    refine (marked_walk b2 vb8 x2 8 _ _ 2 w9 H9.out.1 (by have := H4.out.2.2.1; omega) (by have := H4.out.2.2.1; omega)).mono ?_
    rintro e w9' ⟨rfl, hw⟩
    obtain rfl := hw.symm
    dsimp only
    go_wp2_with fail
    refine (theirs_walk v2 ss w9 (HG.out.up HU9.out).sg HG.out.hl (fun x hx => (HG.out.hb x hx).2)).mono ?_
    rintro e w10 ⟨vr10, rfl, hsg, u10⟩
    have H10 := Hid.of (And.intro hsg u10)
    clear hsg u10
    dsimp only
    go_wp2_with fail
    refine (alike_walk _ vr10 ss w10 ((H1.out.1.up (H7.out.2.2.trans (H9.out.2.trans H10.out.2))).sigL) H10.out.1 HG.out.hl).mono ?_
    rintro e w11 ⟨rfl, u11⟩
    have HU11 := Hid.of (HU9.out.trans (H10.out.2.trans u11))
    clear u11 H10 H9 H8 H7 HU7 HU9 H6 HC H4 H1 HFR HLB HQ
    dsimp only
    go_wp2_with fail
    refine (lent_walk7 _ m w11 (HG.out.up HU11.out).ms HG.out.hm).mono ?_
    rintro e w12 ⟨b12, rfl, hO12, u12⟩
    rw [hmm] at hO12 ⊢
    have hgv : Sl w12 (.slice (some ⟨b12, 0, none⟩) mm (mm + 200)) m := by
      have := sl_take hO12.sl (k := mm) (by rw [lt7_len]; omega)
      rwa [show (lt7 m).take mm = m by unfold lt7; rw [List.take_append_of_le_length (by omega), List.take_of_length_le (by omega)]] at this
    have H12 := Hid.of (And.intro hO12.sl (And.intro hgv (HU11.out.trans u12)))
    clear hO12 hgv u12
    have hw1 : (mm : Int) ≤ ((mm + 200 : Nat) : Int) := by omega
    have hw2 : (mm : Int) ≤ (mm : Int) + 200 := by omega
    dsimp only
    go_wp2_with fail
    refine (Split_walk2 _ m w12 H12.out.2.1 (HG.out.up H12.out.2.2).tl (HG.out.up H12.out.2.2).wt).mono ?_
    rintro e w13 ⟨t1, vl, q1, er1, rfl, hsr1, hol1, u13, hn1⟩
    have H13 := Hid.of (And.intro hsr1 (And.intro hol1 (And.intro u13 hn1)))
    clear hsr1 hol1 u13 hn1
    dsimp only
    go_wp2_with fail
    refine (RSplit_walk _ m w13 (HG.out.up (H12.out.2.2.trans H13.out.2.2.1)).ms (HG.out.up (H12.out.2.2.trans H13.out.2.2.1)).bt).mono ?_
    rintro e w14 ⟨t2, vr2, q2, er2, rfl, hsr2, hog2, hlb2, u14, hn2⟩
    obtain ⟨rfl, rfl, hqq⟩ := sr_same H13.out.1 hsr2 (fun h => ⟨(H13.out.2.2.2 h).1, by rw [(H13.out.2.2.2 h).2.2]; rfl⟩) (fun h => ⟨(hn2 h).1, by rw [(hn2 h).2.2]; rfl⟩)
    have hsm := sr_small H13.out.1 (fun h => by rw [(H13.out.2.2.2 h).2.2]; rfl)
    have H14 := Hid.of (And.intro hog2 (And.intro hlb2 (And.intro u14 (And.intro hqq hsm))))
    clear hsr2 hog2 hlb2 u14 hn2 hqq hsm
    dsimp only
    go_wp2_with fail
    refine (num7 er1 w14).mono ?_
    rintro e w14' ⟨rfl, hw⟩
    obtain rfl := hw.symm
    dsimp only
    go_wp2_with fail
    refine (alike_walk vl vr2 (q1.map (·.1)) w14 (H13.out.2.1.1.sigL.up H14.out.2.2.1) (by rw [H14.out.2.2.2.1]; exact H14.out.1.sigL) (Nat.le_trans H14.out.2.2.2.2.1 (by decide))).mono ?_
    rintro e w15 ⟨rfl, u15⟩
    have H15 := Hid.of (And.intro u15 (H12.out.2.2.trans (H13.out.2.2.1.trans (H14.out.2.2.1.trans u15))))
    clear u15
    dsimp only
    go_wp2_with fail
    refine (whole_walk _ _ m w15 (H12.out.1.up (H13.out.2.2.1.trans (H14.out.2.2.1.trans H15.out.1))) (HG.out.up H15.out.2).ms HG.out.hm).mono ?_
    rintro e w16 ⟨rfl, u16⟩
    have H16 := Hid.of (show Up w13 w16 ∧ Up w14 w16 ∧ Up w w16 from ⟨H14.out.2.2.1.trans (H15.out.1.trans u16), H15.out.1.trans u16, H15.out.2.trans u16⟩)
    clear u16 H15
    have hfill : Calls Tryd.prog 38 #[vl, .int .u8 1] w16 fun e w' => ∃ vL vB vM, e = .returned (.agg #[vl, vL, vB, vM, .int .u8 1]) ∧ Brs w' vl vL vB vM 1 q1 ∧ Kept w12.heap.size w13.heap.size w16 w' := by
      have hol := H13.out.2.1
      by_cases he : q1 = []
      · subst he
        rcases hol.1.1.2 with ⟨rfl, _⟩ | ⟨g, cap, cur, rfl, hb, hg, _⟩
        · exact (filled_nil 1 w16).mono (fun e w' ⟨vL, vB, vM, h1, h2, h3⟩ => ⟨vL, vB, vM, h1, h2, (Kept.refl _ _ _).up h3⟩)
        · refine filled_walk w12.heap.size w13.heap.size g cap [] 1 w16 (hol.up H16.out.1) ⟨fun b hb => ?_, by simp, List.Pairwise.nil, H16.out.1.size⟩ (by decide) (by simp) (by decide)
          exact World.ownsRow.lt hol.1.1 b hb
      · rcases hol.1.1.2 with ⟨_, h0⟩ | ⟨g, cap, cur, rfl, hb, hg, _⟩
        · exact absurd (List.length_eq_zero_iff.1 h0) he
        · refine filled_walk w12.heap.size w13.heap.size g cap q1 1 w16 (hol.up H16.out.1) ⟨fun b hb => World.ownsRow.lt hol.1.1 b hb, fun q hq b hb => ?_, hol.2.2, H16.out.1.size⟩ (by have := H14.out.2.2.2.2.1; rwa [List.length_map] at this) (fun q hq => ?_) (by decide)
          · have h1 := (hol.2.1 q hq).lt b hb
            exact ⟨h1.1, h1.2, ((hol.1.2 q hq).2 b hb).2⟩
          · have := H14.out.2.2.2.2.2 q.1 (List.mem_map.2 ⟨q, hq, rfl⟩)
            omega
    have HFi := Hid.of hfill
    clear hfill
    dsimp only
    go_wp2_with fail
    refine HFi.out.mono ?_
    rintro e w17 ⟨vL, vB, vM, rfl, hbr, hk⟩
    have hu17 := hk.toUp (H13.out.2.2.1.trans H16.out.1) (Nat.le_refl w12.heap.size)
    have H17 := Hid.of (And.intro hbr (And.intro hk (And.intro hu17 (H12.out.2.2.trans hu17))))
    obtain ⟨y1, y2, y3, hy⟩ : ∃ y1 y2 y3, vl = .slice y1 y2 y3 := by
      obtain ⟨a', c', e, _⟩ := hbr.1
      exact ⟨_, _, _, e⟩
    obtain ⟨y4, y5, y6, hy2⟩ : ∃ y4 y5 y6, vL = .slice y4 y5 y6 := by
      obtain ⟨a', c', e, _⟩ := hbr.2.1
      exact ⟨_, _, _, e⟩
    obtain ⟨y7, y8, y9, hy3⟩ : ∃ y7 y8 y9, vB = .slice y7 y8 y9 := by
      obtain ⟨a', c', e, _⟩ := hbr.2.2.1
      exact ⟨_, _, _, e⟩
    obtain ⟨z1, z2, z3, hy4⟩ : ∃ z1 z2 z3, vM = .slice z1 z2 z3 := by
      obtain ⟨_, _, _, ms, _, ⟨a', c', e, _⟩, _⟩ := hbr
      exact ⟨_, _, _, e⟩
    subst hy hy2 hy3 hy4
    clear hbr hk hu17 HFi
    dsimp only
    go_wp2_with fail
    have hu7 := (Up.refl w17).alloc (Obj.cells #[.slice y1 y2 y3, .slice y4 y5 y6, .slice y7 y8 y9, .slice z1 z2 z3, .int .u8 1] 71)
    have hbx := cells_new w17 71 [.slice y1 y2 y3, .slice y4 y5 y6, .slice y7 y8 y9, .slice z1 z2 z3, .int .u8 1]
    have HBX := Hid.of (show (∀ j y, ([.slice y1 y2 y3, .slice y4 y5 y6, .slice y7 y8 y9, .slice z1 z2 z3, .int .u8 1] : List Value)[j]? = some y → (w17.alloc (Obj.cells #[.slice y1 y2 y3, .slice y4 y5 y6, .slice y7 y8 y9, .slice z1 z2 z3, .int .u8 1] 71)).cell? ⟨w17.heap.size, j, none⟩ = some y) ∧ Up w17 (w17.alloc (Obj.cells #[.slice y1 y2 y3, .slice y4 y5 y6, .slice y7 y8 y9, .slice z1 z2 z3, .int .u8 1] 71)) from ⟨fun j y hj => by have := hbx j y hj; rwa [add_plain, Nat.zero_add] at this, hu7⟩)
    clear hu7 hbx
    generalize w17.alloc (Obj.cells #[.slice y1 y2 y3, .slice y4 y5 y6, .slice y7 y8 y9, .slice z1 z2 z3, .int .u8 1] 71) = w17b at *
    refine (Split_walk2 _ m w17b (H12.out.2.1.up (H17.out.2.2.1.trans HBX.out.2)) (HG.out.up (H17.out.2.2.2.trans HBX.out.2)).tl (HG.out.up (H17.out.2.2.2.trans HBX.out.2)).wt).mono ?_
    rintro e w18 ⟨t3, vl3, q3, er3, rfl, hsr3, hol3, u18, hn3⟩
    obtain ⟨rfl, rfl, hq3⟩ := sr_same H13.out.1 hsr3 (fun h => ⟨(H13.out.2.2.2 h).1, by rw [(H13.out.2.2.2 h).2.2]; rfl⟩) (fun h => ⟨(hn3 h).1, by rw [(hn3 h).2.2]; rfl⟩)
    have H18 := Hid.of (And.intro hol3 (And.intro u18 hq3))
    clear hsr3 hol3 u18 hn3 hq3
    dsimp only
    go_wp2_with fail
    have hr18 : SigL w18 vr2 (q1.map (·.1)) := by
      have h1 := ((H14.out.1.up H16.out.2.1).kept (Nat.le_refl _) H14.out.2.1 H17.out.2.1).up (HBX.out.2.trans H18.out.2.1)
      rw [H14.out.2.2.2.1]
      exact h1.sigL
    refine (alike_walk vl3 vr2 (q1.map (·.1)) w18 (by rw [H18.out.2.2]; exact H18.out.1.1.sigL) hr18 (Nat.le_trans H14.out.2.2.2.2.1 (by decide))).mono ?_
    rintro e w19 ⟨rfl, u19⟩
    have H19 := Hid.of (HBX.out.2.trans (H18.out.2.1.trans u19))
    have e0 := (H18.out.2.1.trans u19).cell (HBX.out.1 0 _ rfl)
    have e1 := (H18.out.2.1.trans u19).cell (HBX.out.1 1 _ rfl)
    have e2 := (H18.out.2.1.trans u19).cell (HBX.out.1 2 _ rfl)
    have e3 := (H18.out.2.1.trans u19).cell (HBX.out.1 3 _ rfl)
    have e4 := (H18.out.2.1.trans u19).cell (HBX.out.1 4 _ rfl)
    clear u19 hr18
    dsimp only
    go_wp2_with fail
    refine (bears_walk _ _ _ _ 1 q1 w19 (H17.out.1.up H19.out) (by have := H14.out.2.2.2.2.1; rwa [List.length_map] at this) (fun q hq => by have := H14.out.2.2.2.2.2 q.1 (List.mem_map.2 ⟨q, hq, rfl⟩); omega) (by decide)).mono ?_
    rintro e w20 ⟨rfl, u20⟩
    have H20 := Hid.of (And.intro (H17.out.2.2.1.trans (H19.out.trans u20)) (H17.out.2.2.2.trans (H19.out.trans u20)))
    clear u20 e0 e1 e2 e3 e4
    dsimp only
    go_wp2_with fail
    refine (whole_walk _ _ m w20 (H12.out.1.up H20.out.1) (HG.out.up H20.out.2).ms HG.out.hm).mono ?_
    rintro e w21 ⟨rfl, u21⟩
    have H21 := Hid.of (H20.out.2.trans u21)
    clear u21
    dsimp only
    go_wp2
    go_ret
    exact ⟨rfl, H21.out⟩
end
section
open Go.ChangeShapes Go.WideShapes Go.ChangeAt Go.WideMaps Go.WideElems Go.RowKit TextNum
theorem list_chooseB {α : Type} {P : Nat → α → Prop} : ∀ (n : Nat), (∀ i, i < n → ∃ x, P i x) → ∃ xs : List α, xs.length = n ∧ ∀ i (h : i < xs.length), P i xs[i]
  | 0, _ => ⟨[], rfl, fun i h => by cases h⟩
  | n + 1, h => by
    obtain ⟨xs, e, hx⟩ := list_chooseB n (fun i hi => h i (by omega))
    obtain ⟨x, hp⟩ := h n (by omega)
    refine ⟨xs ++ [x], by simp [e], fun i hi => ?_⟩
    rcases Nat.lt_or_ge i xs.length with hl | hl
    · rw [List.getElem_append_left hl]; exact hx i hl
    · have hi' : i = n := by rw [List.length_append] at hi; simp at hi; omega
      subst hi'
      rw [List.getElem_append_right hl]
      simpa using hp
theorem bulk_mem {H : Type} : ∀ {ds : List (DataW H)} {j : Nat} {d : DataW H}, ds[j]? = some d → Rows.uptoBulk d ≤ Rows.uptoBulkAll ds
  | d0 :: ds, 0, d, hd => by
    simp only [List.getElem?_cons_zero, Option.some.injEq] at hd
    subst hd
    simp only [Rows.uptoBulkAll]
    omega
  | d0 :: ds, j + 1, d, hd => by
    simp only [List.getElem?_cons_succ] at hd
    have := bulk_mem hd
    simp only [Rows.uptoBulkAll]
    omega
  | [], _, _, hd => by simp at hd
theorem sl_openB {H : Type} {enc : TypeId × Value → H} {W : World} {fuel : Nat} {l : List Value} {d : DataW H} {ps : List MemPlace}
    (hf' : DataW.trod enc Tryd.prog W 0 (fun _ => true) true fuel 22 l = some (d, ps)) :
    ∃ a c bs, l = [.slice a bs.length c] ∧ Sl W (.slice a bs.length c) bs ∧ bs.length ≤ Rows.uptoBulk d := by
  rcases open_ints Tryd.underlying22 Tryd.underlying5 cells8' hf' with ⟨e1, _⟩ | ⟨ad, len, cap, zs, e1, _, hlc, _, hzl, hx, hcell, hwf⟩
  · exact ⟨none, 0, [], e1, ⟨none, 0, rfl, Nat.le_refl _, .inl rfl⟩, Nat.zero_le _⟩
  · simp only [if_true] at hzl
    injection hx with hd _
    have hlen : ((zs.take len).map fun z => UInt8.ofNat z.toNat).length = len := by
      rw [List.length_map, List.length_take, Nat.min_eq_left (by omega)]
    refine ⟨some ad, cap, (zs.take len).map fun z => UInt8.ofNat z.toNat, by rw [hlen]; exact e1, ⟨some ad, cap, rfl, by rw [hlen]; omega, ?_⟩, ?_⟩
    · rcases Nat.eq_zero_or_pos len with h0 | h0
      · left; subst h0; simp
      · right
        have h00 := hcell 0 (by omega)
        obtain ⟨b, off, rfl⟩ : ∃ b off, ad = ⟨b, off, none⟩ := by
          obtain ⟨b, off, sp⟩ := ad
          cases sp with
          | none => exact ⟨b, off, rfl⟩
          | some s => exfalso; simp only [World.cell?, Addr.add] at h00; split at h00 <;> simp at h00
        refine ⟨b, off, rfl, lt_of_cell (i := off + 0) (by rw [add_plain] at h00; exact h00), fun i hi => ?_⟩
        rw [hlen] at hi
        have h1 := hcell i (by omega)
        rw [add_plain] at h1
        rw [h1]
        have hi2 : i < zs.length := by omega
        have hz := hwf zs[i] (List.getElem_mem hi2)
        have hb : 0 ≤ zs[i] ∧ zs[i] ≤ 255 := by
          simpa [Lit.wf, IntKind.min, IntKind.max, IntKind.signed, IntKind.bits] using hz
        simp only [List.getElem_map, List.getElem_take, List.getD_eq_getElem?_getD, List.getElem?_eq_getElem hi2, Option.getD_some]
        congr 2
        rw [ofNat_toNat (by omega)]
        omega
    · rw [hlen, hd]
      simp only [Rows.uptoBulk]
      have := len_le (lits (H := H) .u8 (zs.take len))
      have e : (lits (H := H) .u8 (zs.take len)).length = (zs.take len).length := by simp [lits]
      rw [List.length_take, Nat.min_eq_left (by omega)] at e
      omega
set_option maxRecDepth 100000 in
theorem sig_openB {H : Type} {enc : TypeId × Value → H} {W : World} {fuel : Nat} {cs : List Value} {d : DataW H} {ps : List MemPlace}
    (hf : DataW.trod enc Tryd.prog W 0 (fun _ => true) true fuel 42 cs = some (d, ps)) :
    ∃ (q : Sg × Option Addr × Nat), cs = [.string q.1.name, .int .u32 (q.1.hash : Int), .slice q.2.1 q.1.bytes.length q.2.2] ∧ q.1.hash < 4294967296 ∧ Sl W (.slice q.2.1 q.1.bytes.length q.2.2) q.1.bytes ∧ q.1.name.size ≤ Rows.uptoBulk d ∧ q.1.bytes.length ≤ Rows.uptoBulk d := by
  obtain ⟨ys, m, _, hx, hl, hn, hel⟩ := DataW.trod_struct Tryd.underlying42 hf
  rw [show Tryd.prog.cellsOf 42 = 3 by kernel_rfl] at hl
  have hn3 : ys.length = 3 := hn
  injection hx with hd _
  have e0 : DataW.trod enc Tryd.prog W 0 (fun _ => true) true m 9 ((cs.drop 0).take (Tryd.prog.cellsOf 9)) = ys[0]? := hel 0 _ rfl
  have e1 : DataW.trod enc Tryd.prog W 0 (fun _ => true) true m 40 ((cs.drop 1).take (Tryd.prog.cellsOf 40)) = ys[1]? := hel 1 _ rfl
  have e2 : DataW.trod enc Tryd.prog W 0 (fun _ => true) true m 22 ((cs.drop 2).take (Tryd.prog.cellsOf 22)) = ys[2]? := hel 2 _ rfl
  rw [show Tryd.prog.cellsOf 9 = 1 by kernel_rfl, List.getElem?_eq_getElem (by omega)] at e0
  rw [show Tryd.prog.cellsOf 40 = 1 by kernel_rfl, List.getElem?_eq_getElem (by omega)] at e1
  rw [show Tryd.prog.cellsOf 22 = 1 by kernel_rfl, List.getElem?_eq_getElem (by omega)] at e2
  obtain ⟨nm, f0, g0, _⟩ := DataW.trod_string Tryd.underlying9 e0
  obtain ⟨z, f1, _, w1⟩ := DataW.trod_int Tryd.underlying40 e1
  obtain ⟨a, c, bs, f2, hS, hB⟩ := sl_openB e2
  have hz : 0 ≤ z ∧ z ≤ 4294967295 := by
    simpa [Lit.wf, IntKind.min, IntKind.max, IntKind.signed, IntKind.bits] using w1
  refine ⟨(⟨nm, z.toNat, bs⟩, a, c), ?_, by simp only; omega, hS, ?_⟩
  · match cs, hl with
    | [x, y, u], _ =>
      simp only [List.drop_zero, List.take_succ_cons, List.take_zero, List.cons.injEq, and_true, List.drop_succ_cons] at f0 f1 f2
      rw [f0, f1, f2]
      simp only [List.cons.injEq, and_true, true_and]
      congr 1
      omega
  · rw [hd]
    simp only [Rows.uptoBulk]
    have h0 := bulk_mem (ds := ys.map (·.1)) (j := 0) (d := .lit (.string nm.data.toList)) (by rw [List.getElem?_map, List.getElem?_eq_getElem (by omega), g0]; rfl)
    have h2 := bulk_mem (ds := ys.map (·.1)) (j := 2) (by rw [List.getElem?_map, List.getElem?_eq_getElem (by omega)]; rfl)
    simp only [Rows.uptoBulk] at h0
    have hsz := Go.Lib.size_eq nm
    constructor
    · omega
    · exact Nat.le_trans hB (Nat.le_trans h2 (Nat.le_succ _))
set_option maxRecDepth 100000 in
theorem cellsSgB : Tryd.prog.cellsOf 42 = 3 := by kernel_rfl
/-- a list of signatures as an argument -/
theorem sigs_openB {H : Type} {enc : TypeId × Value → H} {W : World} {v : Value} {d : DataW H} {ps : List MemPlace} (h : DataW.Trod enc Tryd.prog W 0 (fun _ => true) true 39 v d ps) (a : Option Addr) (len cap : Nat) (hv : v = .slice a len cap) :
    ∃ ss, SigL W v ss ∧ Hsh ss ∧ ss.length ≤ Rows.uptoBulk d ∧ ∀ s, s ∈ ss → s.name.size ≤ Rows.uptoBulk d ∧ s.bytes.length ≤ Rows.uptoBulk d := by
  subst hv
  obtain ⟨fuel, hf⟩ := h
  have hf' : DataW.trod enc Tryd.prog W 0 (fun _ => true) true fuel 39 [.slice a len cap] = some (d, ps) := hf
  rcases DataW.trod_slice Tryd.underlying39 hf' with ⟨e1, _⟩ | ⟨ad, l2, c2, elems, rest, n, _, e1, hx, _, hlc, _, hel0, hel, _, _⟩
  · simp only [List.cons.injEq, Value.slice.injEq, and_true] at e1
    obtain ⟨rfl, rfl, rfl⟩ := e1
    exact ⟨[], ⟨none, 0, rfl, Nat.le_refl _, .inl rfl⟩, fun s hs => (by cases hs), Nat.zero_le _, fun s hs => (by cases hs)⟩
  · simp only [List.cons.injEq, Value.slice.injEq, and_true] at e1
    obtain ⟨rfl, rfl, rfl⟩ := e1
    injection hx with hd _
    rw [cellsSgB] at hel
    have key : ∀ i, i < len → ∃ q : Sg × Option Addr × Nat, W.cells? 0 (ad.add (i * 3)) 3 = some [.string q.1.name, .int .u32 (q.1.hash : Int), .slice q.2.1 q.1.bytes.length q.2.2] ∧ q.1.hash < 4294967296 ∧ Sl W (.slice q.2.1 q.1.bytes.length q.2.2) q.1.bytes ∧ q.1.name.size ≤ Rows.uptoBulk d ∧ q.1.bytes.length ≤ Rows.uptoBulk d := by
      intro i hi
      have h1 := hel i hi
      rw [List.getElem?_eq_getElem (by omega), Option.bind_eq_some_iff] at h1
      obtain ⟨cs, hcs, hy⟩ := h1
      obtain ⟨q, rfl, h2, h3, h4⟩ := sig_openB hy
      have hbm := bulk_mem (ds := elems.map (·.1)) (j := i) (d := (elems[i]'(by omega)).1) (by rw [List.getElem?_map, List.getElem?_eq_getElem (by omega)]; rfl)
      refine ⟨q, hcs, h2, h3, ?_⟩
      rw [hd]
      simp only [Rows.uptoBulk]
      have h5 := Nat.le_trans hbm (Nat.le_trans (Nat.le_add_right _ (Rows.uptoBulkAll (rest.map (·.1)))) (Nat.le_succ _))
      exact ⟨Nat.le_trans h4.1 h5, Nat.le_trans h4.2 h5⟩
    obtain ⟨qs, hql, hq⟩ := list_chooseB len key
    have hget : ∀ s, s ∈ qs.map (·.1) → ∃ i, ∃ h : i < qs.length, s = qs[i].1 := fun s hs => by
      obtain ⟨q, hq, rfl⟩ := List.mem_map.1 hs
      obtain ⟨i, hi, rfl⟩ := List.getElem_of_mem hq
      exact ⟨i, hi, rfl⟩
    refine ⟨qs.map (·.1), ⟨some ad, cap, by rw [List.length_map, hql], by rw [List.length_map, hql]; exact hlc, ?_⟩, fun s hs => ?_, ?_, fun s hs => ?_⟩
    · rcases Nat.eq_zero_or_pos len with h0 | h0
      · left
        rw [List.length_eq_zero_iff.1 (hql.trans h0)]
        rfl
      · right
        have h00 := (World.cells?_some (hq 0 (by omega)).1).2.2 0 (by decide)
        obtain ⟨b, off, rfl⟩ : ∃ b off, ad = ⟨b, off, none⟩ := by
          have h01 : W.cell? ((ad.add (0 * 3)).add 0) = some (.string (qs[0]'(by omega)).1.name) := h00.trans rfl
          obtain ⟨b, off, sp⟩ := ad
          cases sp with
          | none => exact ⟨b, off, rfl⟩
          | some s => exfalso; simp only [World.cell?, Addr.add] at h01; split at h01 <;> simp at h01
        have hc : ∀ i (h : i < qs.length) j, j < 3 → W.cell? ⟨b, off + i * 3 + j, none⟩ = ([.string qs[i].1.name, .int .u32 (qs[i].1.hash : Int), .slice qs[i].2.1 qs[i].1.bytes.length qs[i].2.2] : List Value)[j]? := fun i h j hj => by
          have := (World.cells?_some (hq i h).1).2.2 j hj
          rwa [add_plain, add_plain] at this
        refine ⟨b, off, rfl, lt_of_cell (hc 0 (by omega) 0 (by decide)), fun i hi => ?_⟩
        have hi' : i < qs.length := by rwa [List.length_map] at hi
        rw [List.getElem_map]
        refine ⟨qs[i].2.1, qs[i].1.bytes.length, qs[i].2.2, ?_, ?_, ?_, rfl, (hq i hi').2.2.1⟩
        · exact hc i hi' 0 (by decide)
        · exact hc i hi' 1 (by decide)
        · exact hc i hi' 2 (by decide)
    · obtain ⟨i, hi, rfl⟩ := hget s hs
      exact (hq i hi).2.1
    · rw [List.length_map, hql, hd]
      simp only [Rows.uptoBulk]
      have := len_le (elems.map (·.1))
      rw [List.length_map] at this
      omega
    · obtain ⟨i, hi, rfl⟩ := hget s hs
      exact (hq i hi).2.2.2
end
section
open Go.RowKit TextNum Go.Lib Go.ChangeShapes Go.WideShapes Go.ChangeAt
set_option maxRecDepth 100000 in
theorem tabDigB : (Rows.laid_ledger_text_digits : DataW Unit) = tabData .u8 (DT.map fun c => (c.toNat : Int)) := by kernel_rfl
set_option maxRecDepth 100000 in
theorem tabLetB : (Rows.laid_ledger_text_letters : DataW Unit) = tabData .u8 (TextNum.LT.map fun c => (c.toNat : Int)) := by kernel_rfl
set_option maxRecDepth 100000 in
theorem nDigB : Tryd.prog.globalNamed "ledger/text.digits" = some 2 := by kernel_rfl
set_option maxRecDepth 100000 in
theorem nLetB : Tryd.prog.globalNamed "ledger/text.letters" = some 1 := by kernel_rfl
set_option maxRecDepth 100000 in
theorem let_ofB {W : World} (h : VarReads Tryd.prog W "ledger/text.letters" Rows.laid_ledger_text_letters) : TabL W := by
  rw [tabLetB] at h
  obtain ⟨g, t, cs, fuel, p, hg, hty, hvar, hd⟩ := h
  obtain rfl := Option.some.inj (nLetB.symm.trans hg)
  obtain rfl := Option.some.inj ((show (Tryd.prog.globals[1]?).map (·.type) = some 109 by kernel_rfl).symm.trans hty)
  have hcs := cells_of_tab Tryd.underlying109 Tryd.underlying5 (by kernel_rfl) (by kernel_rfl) hd
  intro i hi
  have hl : i < TextNum.LT.length := by simpa [TextNum.LT] using hi
  rw [World.var?_cell hg hvar i, ← Array.getElem?_toList, hcs]
  simp [TextNum.lt, List.getD, hl]
set_option maxRecDepth 100000 in
theorem dig_ofB {W : World} (h : VarReads Tryd.prog W "ledger/text.digits" Rows.laid_ledger_text_digits) : TabD W := by
  rw [tabDigB] at h
  obtain ⟨g, t, cs, fuel, p, hg, hty, hvar, hd⟩ := h
  obtain rfl := Option.some.inj (nDigB.symm.trans hg)
  obtain rfl := Option.some.inj ((show (Tryd.prog.globals[2]?).map (·.type) = some 110 by kernel_rfl).symm.trans hty)
  have hcs := cells_of_tab Tryd.underlying110 Tryd.underlying5 (by kernel_rfl) (by kernel_rfl) hd
  intro i hi
  have hl : i < DT.length := by simpa [DT] using hi
  rw [World.var?_cell hg hvar i, ← Array.getElem?_toList, hcs]
  simp [TextNum.dg, List.getD, hl]
theorem glBackB {W : World} (h : laidMetH Tryd.prog Rows.textBackUptoRow.laid W) : TabD W ∧ TabL W := by
  rw [MakeChecks.laidMetH_plain _ _ _ (by kernel_rfl)] at h
  exact ⟨dig_ofB (laidMet.reads h (by simp [Rows.textBackUptoRow])), let_ofB (laidMet.reads h (by simp [Rows.textBackUptoRow]))⟩
end
section
open Go.RowKit TextNum Go.Lib
set_option maxRecDepth 100000 in
theorem whiteXf : WhiteExtra Tryd.prog Tryd.lays199_ren := ⟨by kernel_rfl, by kernel_rfl, by kernel_rfl, by kernel_rfl, by kernel_rfl, by kernel_rfl, by kernel_rfl, by kernel_rfl⟩
set_option maxRecDepth 100000 in
theorem white_dataf : (Rows.laid_unicode_White_Space : DataW Unit) = whiteData := by kernel_rfl
theorem white_off {W : World} (h : VarReads Tryd.prog W "unicode.White_Space" Rows.laid_unicode_White_Space) : WhiteTab 3 W := by
  rw [white_dataf] at h
  exact whiteTab_of_reads Tryd.lays199 whiteXf h
theorem glNoteBack {W : World} (h : laidMetH Tryd.prog Rows.noteBackRow.laid W) : WhiteTab 3 W ∧ TabL W := by
  rw [MakeChecks.laidMetH_plain _ _ _ (by kernel_rfl)] at h
  exact ⟨white_off (laidMet.reads h (by simp [Rows.noteBackRow])), let_ofB (laidMet.reads h (by simp [Rows.noteBackRow]))⟩
end
section
open Go.RowKit TextNum Go.Lib
theorem glForms {W : World} (h : laidMetH Tryd.prog Rows.noteFormsUptoRow.laid W) : WhiteTab 3 W ∧ TabL W ∧ BTab W := by
  rw [MakeChecks.laidMetH_plain _ _ _ (by kernel_rfl)] at h
  exact ⟨white_off (laidMet.reads h (by simp [Rows.noteFormsUptoRow])), let_ofB (laidMet.reads h (by simp [Rows.noteFormsUptoRow])), blanks_of (laidMet.reads h (by simp [Rows.noteFormsUptoRow]))⟩
end
end Go.Proofs.YtbdbpmeaiiodgaaDoor
