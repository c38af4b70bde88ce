import Derived.Test.YtehnnlhoajdcaaaGreatDoorYe
import Derived.Test.YtehnnlhoajdcaaaGreatDoorWh
namespace Go.Proofs.YtehnnlhoajdcaaaGreatDoor
open Go.RowKit Go.Extern.Stop Go.Stop Go.Extern TextNum
abbrev epl (p f : Addr) : Value := .iface 232 (.agg #[ev p, ev f])
theorem Tryz.noIsP (v : Value) (xT : TypeId) (w : World) : (Instr.typeAssert (.iface 232 v) xT 245 true).run Tryz.prog w = .ok (.tuple #[.nilIface, .bool false]) w := run_typeAssert_lacksB Tryz.underlying245 (by kernel_rfl) (by kernel_rfl) v xT w
theorem Tryz.hasUnwrapP (v : Value) (xT : TypeId) (w : World) : (Instr.typeAssert (.iface 232 v) xT 248 true).run Tryz.prog w = .ok (.tuple #[.iface 232 v, .bool true]) w := run_typeAssert_hasB Tryz.underlying248 (by kernel_rfl) v xT w
theorem Tryz.neP (vx vy : Value) (w : World) : (binOp .eql 106 (.iface 232 vx) (.iface 299 vy)).run Tryz.prog w = .ok (.bool false) w := run_eql_iface_types 232 299 vx vy Tryz.underlying106 (by decide) w
set_option maxRecDepth 100000 in
theorem is_pl_same (a f : Addr) (w : World) : Calls Tryz.prog 108 #[epl a f, ev a] w fun e w' => e = .returned (.bool true) ∧ Up w w' := by
 obtain ⟨i, hi, hcmp⟩ := Option.map_eq_some_iff.1 Tryz.isComp
 obtain ⟨j, hj, hjs⟩ := Option.map_eq_some_iff.1 Tryz.isSize
 have h8 := @run_callFunc_extern Tryz.prog 136 _ Extern.ReflectliteType.typeOf Tryz.func136 (by kernel_rfl) (by kernel_rfl) (by kernel_rfl) (by kernel_rfl)
 have h32 := @run_callFunc_extern Tryz.prog 255 _ cmpE Tryz.func255 (by kernel_rfl) (by kernel_rfl) (by kernel_rfl) (by kernel_rfl)
 have tT := Tryz.isTypeOf
 have cT := Tryz.isComparable
 have nE := Tryz.noIsP
 have uE := Tryz.hasUnwrapP
 have eP := Tryz.neP
 have heq := fun w => run_eql_iface_ptr_same (P := Tryz.prog) w a Tryz.underlying106 Tryz.underlying299 hi hcmp hj
 go_enter Tryz.func108, Tryz.ntmps108
 go_wp2
 refine wp_loop_rounds 2 ?_
 rw [rounds_succ]
 go_wp2
 rw [rounds_succ]
 go_wp2
 go_ret
 exact ⟨rfl, (Up.refl w).alloc _⟩
set_option maxRecDepth 100000 in
theorem is_pl_other (a b f : Addr) (ca cb : Array Value) (ta tb : TypeId) (w : World) (hne : a ≠ b) (ha : w.heap[a.block]? = some (.cells ca ta (0, 0))) (hb : w.heap[b.block]? = some (.cells cb tb (0, 0))) : Calls Tryz.prog 108 #[epl a f, ev b] w fun e w' => e = .returned (.bool false) ∧ Up w w' := by
 obtain ⟨i, hi, hcmp⟩ := Option.map_eq_some_iff.1 Tryz.isComp
 obtain ⟨j, hj, hjs⟩ := Option.map_eq_some_iff.1 Tryz.isSize
 have h8 := @run_callFunc_extern Tryz.prog 136 _ Extern.ReflectliteType.typeOf Tryz.func136 (by kernel_rfl) (by kernel_rfl) (by kernel_rfl) (by kernel_rfl)
 have h32 := @run_callFunc_extern Tryz.prog 255 _ cmpE Tryz.func255 (by kernel_rfl) (by kernel_rfl) (by kernel_rfl) (by kernel_rfl)
 have tT := Tryz.isTypeOf
 have cT := Tryz.isComparable
 have nE := Tryz.noIsP
 have uE := Tryz.hasUnwrapP
 have eP := Tryz.neP
 have nE2 := Tryz.noIsE
 have uE2 := Tryz.noUnwrapE
 have vE2 := Tryz.noUnwrapsE
 have hup := (Up.refl w).alloc (.cells #[ev a, ev f] 232)
 have heq := run_eql_iface_ptr_other (P := Tryz.prog) (w.alloc (.cells #[ev a, ev f] 232)) Tryz.underlying106 Tryz.underlying299 hi hcmp hj (by rw [hjs]; decide) hne ((hup.block _ (lt_of_at ha)).trans ha) ((hup.block _ (lt_of_at hb)).trans hb)
 clear hup
 go_enter Tryz.func108, Tryz.ntmps108
 go_wp2
 refine wp_loop_rounds 2 ?_
 rw [rounds_succ]
 go_wp2
 rw [rounds_succ]
 go_wp2
 go_ret
 exact ⟨rfl, (Up.refl w).alloc _⟩
set_option maxRecDepth 100000 in
set_option maxHeartbeats 1000000 in
theorem numberOf_pl (ad : Nat → Addr) (f : Addr) (k : Nat) (hk : k < 12) (w : World) (h : GE w ad) : Calls Tryz.prog 55 #[epl (ad k) f] w fun e w' => e = .returned (.int .i64 (nums k)) ∧ Up w w' := by
 have HG := Ho h
 have HR := Ho (refusals_walk ad w h)
 clear h
 go_enter Tryz.func55, Tryz.ntmps55
 go_wp2_with fail
 refine HR.o.mono ?_
 rintro e w1 ⟨rfl, u1⟩
 have HU1 := Ho u1
 clear u1 HR
 dsimp only
 obtain ⟨vr, hvr⟩ := ny (Value.agg (rfC ad).toArray)
 have HVR := Ho hvr
 rw [hvr]
 clear hvr
 go_wp2
 go_loopw [6] (fun v6 wr => ∃ i : Nat, v6 = .int .i64 (i : Int) ∧ i ≤ k ∧ Hd (Up w wr)) (fun v6 _ => 12 - (intOf v6).toNat)
 case atStart => exact ⟨0, rfl, Nat.zero_le _, HU1⟩
 case round =>
  obtain ⟨i, rfl, hi, hU⟩ := hrel
  have HU := Ho hU.o
  clear hU
  have hiz : (i : Int) < 12 := by omega
  go_wp2_with (with_reducible show wpList _ _ _ (⟨_, .index 161 _ _, _, _, _, _⟩ :: _) _ _; refine Shut.out ?_)
  show wpList _ _ _ _ _ _
  refine wpList_val7 (.agg (rfR ad i).toArray) rfl (exec_rf ad i (by omega) rfl HVR.o.symm rfl) ?_
  simp only [Act.put, pB, pC, pD]
  have HA := Ho (at_new wr 160 (rfR ad i))
  have HUA := Ho (HU.o.alloc (.cells (rfR ad i).toArray 160))
  have hrf : rfR ad i = [ev (ad i), .int .i64 (nums i), .int .i64 (stas i)] := rfl
  rw [hrf]
  go_wp2_with fail
  obtain ⟨w2, hw2⟩ := ny (wr.alloc (.cells #[Value.iface 299 (Value.pointer (some (ad i))), Value.int IntKind.i64 (nums i), Value.int IntKind.i64 (stas i)] 160))
  replace HUA := Ho (show Up w w2 by rw [← hw2]; exact HUA.o)
  have c1 : w2.cell? ⟨wr.heap.size, 1, none⟩ = some (.int .i64 (nums i)) := by rw [← hw2]; exact HA.o.cell (i := 1) rfl
  have HGA := Ho (HG.o.up HUA.o)
  rw [hw2]
  clear hw2 hrf
  by_cases hik : i = k
  · subst hik
    refine (is_pl_same (ad i) f w2).mono ?_
    rintro e w5 ⟨rfl, h9⟩
    replace HUA := Ho (HUA.o.trans h9)
    replace c1 := h9.cell c1
    clear h9
    dsimp only
    obtain ⟨ni, hni⟩ := ny (nums i)
    have HNI := Ho hni
    rw [hni] at c1 ⊢
    clear hni
    go_wp2
    go_ret
    rw [HNI.o]
    exact ⟨rfl, HUA.o⟩
  obtain ⟨ca, ta, hba⟩ := HGA.o.bl k hk
  obtain ⟨cb', tb, hbb⟩ := HGA.o.bl i (by omega)
  refine (is_pl_other (ad k) (ad i) f ca cb' ta tb w2 (HG.o.ne k i hk (by omega) (fun e => hik e.symm)) hba hbb).mono ?_
  rintro e w5 ⟨rfl, h9⟩
  replace HUA := Ho (HUA.o.trans h9)
  clear h9 hba hbb
  dsimp only
  go_wp2
  go_roundw
  all_goals first
   | exact ⟨i + 1, by go_num, by omega, HUA⟩
   | (simp [intOf]; omega)
def erV (ad : Nat → Addr) (k : Nat) : Value := if k < 12 then ev (ad k) else epl (ad (k - 12)) (ad 1)
def numK (k : Nat) : Int := if k < 12 then nums k else nums (k - 12)
theorem numberOf_any (ad : Nat → Addr) (k : Nat) (hk : k < 24) (w : World) (h : GE w ad) : Calls Tryz.prog 55 #[erV ad k] w fun e w' => e = .returned (.int .i64 (numK k)) ∧ Up w w' := by
 unfold erV numK
 by_cases h1 : k < 12
 · rw [if_pos h1, if_pos h1]
   exact numberOf_err ad k h1 w h
 rw [if_neg h1, if_neg h1]
 exact numberOf_pl ad (ad 1) (k - 12) (by omega) w h
set_option maxRecDepth 100000 in
theorem tooLongAs_yes (ad : Nat → Addr) (p : Nat) (w : World) (h : GE w ad) : Calls Tryz.prog 125 #[ev (ad p), ev (ad 1)] w fun e w' => e = .returned (epl (ad p) (ad 1)) ∧ Up w w' := by
 have hg : w.cell? ⟨2, 0, none⟩ = some (ev (ad 1)) := h.gl 1 (by decide)
 have HI := Ho (is_same (ad 1) w)
 clear h
 go_enter Tryz.func125, Tryz.ntmps125
 go_wp2_with fail
 refine HI.o.mono ?_
 rintro e w9 ⟨rfl, h9⟩
 obtain rfl := h9.symm
 clear h9
 dsimp only
 go_wp2
 go_ret
 exact ⟨rfl, Up.refl _⟩
set_option maxRecDepth 100000 in
theorem tooLongAs_no (ad : Nat → Addr) (p : Nat) (k : Nat) (hk : k < 12) (h1 : k ≠ 1) (w : World) (h : GE w ad) : Calls Tryz.prog 125 #[ev (ad p), ev (ad k)] w fun e w' => e = .returned (ev (ad k)) ∧ Up w w' := by
 have hg : w.cell? ⟨2, 0, none⟩ = some (ev (ad 1)) := h.gl 1 (by decide)
 obtain ⟨ca, ta, hba⟩ := h.bl k hk
 obtain ⟨cb', tb, hbb⟩ := h.bl 1 (by decide)
 have HI := Ho (is_other (ad k) (ad 1) ca cb' ta tb w (h.ne k 1 hk (by decide) h1) hba hbb)
 clear h hba hbb
 go_enter Tryz.func125, Tryz.ntmps125
 go_wp2_with fail
 refine HI.o.mono ?_
 rintro e w9 ⟨rfl, h9⟩
 obtain rfl := h9.symm
 clear h9
 dsimp only
 go_wp2
 go_ret
 exact ⟨rfl, Up.refl _⟩
set_option maxRecDepth 100000 in
theorem tooLongAs_pl (ad : Nat → Addr) (p : Nat) (k : Nat) (f : Addr) (hk : k < 12) (h1 : k ≠ 1) (w : World) (h : GE w ad) : Calls Tryz.prog 125 #[ev (ad p), epl (ad k) f] w fun e w' => e = .returned (epl (ad k) f) ∧ Up w w' := by
 have hg : w.cell? ⟨2, 0, none⟩ = some (ev (ad 1)) := h.gl 1 (by decide)
 obtain ⟨ca, ta, hba⟩ := h.bl k hk
 obtain ⟨cb', tb, hbb⟩ := h.bl 1 (by decide)
 have HI := Ho (is_pl_other (ad k) (ad 1) f ca cb' ta tb w (h.ne k 1 hk (by decide) h1) hba hbb)
 clear h hba hbb
 go_enter Tryz.func125, Tryz.ntmps125
 go_wp2_with fail
 refine HI.o.mono ?_
 rintro e w9 ⟨rfl, h9⟩
 have HU9 := Ho h9
 clear h9
 dsimp only
 go_wp2
 go_ret
 exact ⟨rfl, HU9.o⟩
set_option maxRecDepth 100000 in
theorem tooLongAs_nil (ad : Nat → Addr) (p : Nat) (w : World) (h : GE w ad) : Calls Tryz.prog 125 #[ev (ad p), .nilIface] w fun e w' => e = .returned (.nilIface) ∧ Up w w' := by
 have hg : w.cell? ⟨2, 0, none⟩ = some (ev (ad 1)) := h.gl 1 (by decide)
 have HI := Ho (is_nil (ad 1) w)
 clear h
 go_enter Tryz.func125, Tryz.ntmps125
 go_wp2_with fail
 refine HI.o.mono ?_
 rintro e w9 ⟨rfl, h9⟩
 obtain rfl := h9.symm
 clear h9
 dsimp only
 go_wp2
 go_ret
 exact ⟨rfl, Up.refl _⟩
end Go.Proofs.YtehnnlhoajdcaaaGreatDoor
