import Derived.Test.YtehnnlhoajdcaaaGreatDoorWf
namespace Go.Proofs.YtehnnlhoajdcaaaGreatDoor
open Go.RowKit TextNum
def gof (k : Nat) : Nat := [7, 2, 17, 3, 5, 15, 16, 6, 11, 1, 4, 12].getD k 0
def nums (k : Nat) : Int := [1, 2, 140, 141, 142, 143, 144, 145, 146, 147, 148, 149].getD k 0
def stas (k : Nat) : Int := [500, 431, 400, 400, 505, 400, 400, 413, 400, 414, 501, 500].getD k 0
structure GE (w : World) (ad : Nat → Addr) : Prop where
 gl : ∀ k, k < 12 → w.cell? ⟨gof k, 0, none⟩ = some (ev (ad k))
 bl : ∀ k, k < 12 → ∃ c t, w.heap[(ad k).block]? = some (.cells c t (0, 0))
 ne : ∀ j k, j < 12 → k < 12 → j ≠ k → ad j ≠ ad k
theorem GE.up {w w' : World} {ad : Nat → Addr} (h : GE w ad) (u : Up w w') : GE w' ad :=
 ⟨fun k hk => u.cell (h.gl k hk), fun k hk => by obtain ⟨c, t, hb⟩ := h.bl k hk; exact ⟨c, t, (u.block _ (lt_of_at hb)).trans hb⟩, h.ne⟩
def rfR (ad : Nat → Addr) (k : Nat) : List Value := [ev (ad k), .int .i64 (nums k), .int .i64 (stas k)]
def rfC (ad : Nat → Addr) : List Value := (List.range 12).flatMap (rfR ad)
theorem results_agg1 {P : Program} {fn : Func} {q : Tmp} {T : TypeId} (h : fn.results = #[.cell q T]) (tmps : Array Value) (w : World) (b : Nat) (cs : List Value) {d : TypeDesc}
  (hp : tmps.getD q undef = .pointer (some ⟨b, 0, none⟩)) (hc : w.rangeAt b 0 cs) (hu : P.underlying T = some d) (hd : d.isRow = true) (hi : (P.info? T).map (·.size) = some cs.length) : (results fn tmps).run P w = .ok (.agg cs.toArray) w := by
 have hp' : tmps[q]?.getD undef = .pointer (some ⟨b, 0, none⟩) := by simpa using hp
 simp [results, h, hp', asAddr, run_loadVar_mid w b 0 T cs _ hc hu hd hi]
set_option maxRecDepth 100000 in
set_option maxHeartbeats 1000000 in
theorem refusals_walk (ad : Nat → Addr) (w : World) (h : GE w ad) : Calls Tryz.prog 107 #[] w fun e w' => e = .returned (.agg (rfC ad).toArray) ∧ Up w w' := by
 have g0 : w.cell? ⟨7, 0, none⟩ = _ := h.gl 0 (by decide)
 have g1 : w.cell? ⟨2, 0, none⟩ = _ := h.gl 1 (by decide)
 have g2 : w.cell? ⟨17, 0, none⟩ = _ := h.gl 2 (by decide)
 have g3 : w.cell? ⟨3, 0, none⟩ = _ := h.gl 3 (by decide)
 have g4 : w.cell? ⟨5, 0, none⟩ = _ := h.gl 4 (by decide)
 have g5 : w.cell? ⟨15, 0, none⟩ = _ := h.gl 5 (by decide)
 have g6 : w.cell? ⟨16, 0, none⟩ = _ := h.gl 6 (by decide)
 have g7 : w.cell? ⟨6, 0, none⟩ = _ := h.gl 7 (by decide)
 have g8 : w.cell? ⟨11, 0, none⟩ = _ := h.gl 8 (by decide)
 have g9 : w.cell? ⟨1, 0, none⟩ = _ := h.gl 9 (by decide)
 have g10 : w.cell? ⟨4, 0, none⟩ = _ := h.gl 10 (by decide)
 have g11 : w.cell? ⟨12, 0, none⟩ = _ := h.gl 11 (by decide)
 clear h
 go_enter Tryz.func107, Tryz.ntmps107
 go_wp2_with (with_reducible refine sL 106 ?_)
 show wpList _ _ _ _ _ _
 have HA := Ho (at_new w 161 [.nilIface, .int .i64 0, .int .i64 0, .nilIface, .int .i64 0, .int .i64 0, .nilIface, .int .i64 0, .int .i64 0, .nilIface, .int .i64 0, .int .i64 0, .nilIface, .int .i64 0, .int .i64 0, .nilIface, .int .i64 0, .int .i64 0, .nilIface, .int .i64 0, .int .i64 0, .nilIface, .int .i64 0, .int .i64 0, .nilIface, .int .i64 0, .int .i64 0, .nilIface, .int .i64 0, .int .i64 0, .nilIface, .int .i64 0, .int .i64 0, .nilIface, .int .i64 0, .int .i64 0])
 have hU : Up w (w.alloc (.cells [.nilIface, .int .i64 0, .int .i64 0, .nilIface, .int .i64 0, .int .i64 0, .nilIface, .int .i64 0, .int .i64 0, .nilIface, .int .i64 0, .int .i64 0, .nilIface, .int .i64 0, .int .i64 0, .nilIface, .int .i64 0, .int .i64 0, .nilIface, .int .i64 0, .int .i64 0, .nilIface, .int .i64 0, .int .i64 0, .nilIface, .int .i64 0, .int .i64 0, .nilIface, .int .i64 0, .int .i64 0, .nilIface, .int .i64 0, .int .i64 0, .nilIface, .int .i64 0, .int .i64 0].toArray 161)) := (Up.refl w).alloc _
 generalize hw1 : w.alloc (.cells [.nilIface, .int .i64 0, .int .i64 0, .nilIface, .int .i64 0, .int .i64 0, .nilIface, .int .i64 0, .int .i64 0, .nilIface, .int .i64 0, .int .i64 0, .nilIface, .int .i64 0, .int .i64 0, .nilIface, .int .i64 0, .int .i64 0, .nilIface, .int .i64 0, .int .i64 0, .nilIface, .int .i64 0, .int .i64 0, .nilIface, .int .i64 0, .int .i64 0, .nilIface, .int .i64 0, .int .i64 0, .nilIface, .int .i64 0, .int .i64 0, .nilIface, .int .i64 0, .int .i64 0].toArray 161) = w1 at *
 have HU := Ho hU
 replace g0 := hU.cell g0
 replace g1 := hU.cell g1
 replace g2 := hU.cell g2
 replace g3 := hU.cell g3
 replace g4 := hU.cell g4
 replace g5 := hU.cell g5
 replace g6 := hU.cell g6
 replace g7 := hU.cell g7
 replace g8 := hU.cell g8
 replace g9 := hU.cell g9
 replace g10 := hU.cell g10
 replace g11 := hU.cell g11
 clear hU hw1
 go_wp2_with (with_reducible refine sS 161 ?_)
 show wpList _ _ _ _ _ _
 refine wpList_store_at rfl 161 _ _ rfl w.heap.size HA.o (rfC ad) rfl rfl rfl (by kernel_rfl) (by kernel_rfl) ?_
 intro w4 hA4 hg4
 have HA4 := Ho hA4
 have HU4 := Ho (HU.o.bz hg4)
 clear hA4 hg4 g0 g1 g2 g3 g4 g5 g6 g7 g8 g9 g10 g11
 simp only [Act.put]
 repeat go_step
 refine bodyPost_ret (results_agg1 rfl _ _ w.heap.size (rfC ad) rfl HA4.o.range Tryz.underlying161 rfl (by kernel_rfl)) rfl ?_
 exact ⟨rfl, HU4.o⟩
theorem idx_rf (ad : Nat → Addr) (w : World) : ∀ k : Nat, k < 12 → (Instr.index 161 (.agg (rfC ad).toArray) (.int .i64 (k : Int))).run Tryz.prog w = .ok (.agg (rfR ad k).toArray) w
 | 0, _ => by kernel_rfl
 | 1, _ => by kernel_rfl
 | 2, _ => by kernel_rfl
 | 3, _ => by kernel_rfl
 | 4, _ => by kernel_rfl
 | 5, _ => by kernel_rfl
 | 6, _ => by kernel_rfl
 | 7, _ => by kernel_rfl
 | 8, _ => by kernel_rfl
 | 9, _ => by kernel_rfl
 | 10, _ => by kernel_rfl
 | 11, _ => by kernel_rfl
theorem exec_rf {o : Oper} {ρ : Operand → Value} {x y : Operand} {w : World} (ad : Nat → Addr) (k : Nat) (hk : k < 12) (ho : o.op = .index 161 x y) (hx : ρ x = .agg (rfC ad).toArray) (hy : ρ y = .int .i64 (k : Int)) : (execOp ρ o).run Tryz.prog w = .ok (.value (.agg (rfR ad k).toArray)) w := by
 have h := idx_rf ad w k hk
 unfold execOp
 simp only [ho, hx, hy]
 go_simp
end Go.Proofs.YtehnnlhoajdcaaaGreatDoor
