import Derived.Test.YtaibjeehjhlicaaGreatDoorQbc
import Derived.Test.YtaibjeehjhlicaaGreatDoorQab
import Derived.Laws.Cover3
import Derived.Maps.Own
import Derived.Maps.OwnSet
namespace Go.Proofs.YtaibjeehjhlicaaGreatDoor
open Go.RowKit Go.Shelf TextNum ModNum
/-- a struct in its block -/
def At (w : World) (b : Nat) (t : TypeId) (cs : List Value) : Prop := w.heap[b]? = some (.cells cs.toArray t)
theorem lt_of_at {w : World} {k : Nat} {o : Obj} (h : w.heap[k]? = some o) : k < w.heap.size := (Array.getElem?_eq_some_iff.1 h).1
theorem At.up {w w' : World} {b : Nat} {t : TypeId} {cs : List Value} (h : At w b t cs) (k : Up w w') : At w' b t cs := by
  unfold At
  rw [k.block b (lt_of_at h)]; exact h
theorem at_new (w : World) (t : TypeId) (cs : List Value) : At (w.alloc (.cells cs.toArray t)) w.heap.size t cs := by
  show (w.heap.push _)[w.heap.size]? = _
  simp
theorem At.cell {w : World} {b : Nat} {t : TypeId} {cs : List Value} (h : At w b t cs) {i : Nat} {v : Value} (hi : cs[i]? = some v) : w.cell? ⟨b, i, none⟩ = some v := by
  rw [cell_of_row w b i cs.toArray _ (0, 0) h]
  simpa using hi
theorem At.thaw {w : World} {b : Nat} {t : TypeId} {cs : List Value} (h : At w b t cs) (i : Nat) : w.frozen? ⟨b, i, none⟩ = false := by
  have h' : w.heap[b]? = some (.cells cs.toArray t (0, 0)) := h
  simp [World.frozen?, h']
theorem At.set {w : World} {b : Nat} {t : TypeId} {cs : List Value} (h : At w b t cs) (i : Nat) (v : Value) : At (w.setCell ⟨b, i, none⟩ v) b t (cs.set i v) := by
  have h1 := heap_setCell_same w b i _ t v h
  unfold At
  rw [h1]
  simp
theorem grown_set (w : World) (p : Addr) (v : Value) : w.grownBy (w.setCell p v) (some p.block) := ⟨rfl, rfl, rfl, by simp, fun k _ hk => by
  have hne : ¬ p.block = k := fun e => hk (by rw [e])
  simp only [World.setCell]
  split <;> simp [Array.getElem?_modify, hne]⟩
theorem grown_trans {a b c : World} {row : Option Nat} (h : a.grownBy b row) (k : b.grownBy c row) : a.grownBy c row := ⟨k.os.trans h.os, k.tape.trans h.tape, k.output.trans h.output, Nat.le_trans h.size k.size, fun i hi hr => (k.block i (Nat.lt_of_lt_of_le hi h.size) hr).trans (h.block i hi hr)⟩
theorem grown_up {a b c : World} {row : Option Nat} (h : a.grownBy b row) (k : Up b c) : a.grownBy c row := ⟨k.os.trans h.os, k.tape.trans h.tape, k.output.trans h.output, Nat.le_trans h.size k.size, fun i hi hr => (k.block i (Nat.lt_of_lt_of_le hi h.size)).trans (h.block i hi hr)⟩
theorem up_grown {a b c : World} {row : Option Nat} (h : Up a b) (k : b.grownBy c row) : a.grownBy c row := ⟨k.os.trans h.os, k.tape.trans h.tape, k.output.trans h.output, Nat.le_trans h.size k.size, fun i hi hr => (k.block i (Nat.lt_of_lt_of_le hi h.size) hr).trans (h.block i hi)⟩
theorem grown_refl (a : World) (row : Option Nat) : a.grownBy a row := ⟨rfl, rfl, rfl, Nat.le_refl _, fun _ _ _ => rfl⟩
theorem Up.by {w0 w w' : World} {row : Option Nat} (h : Up w0 w) (hg : w.grownBy w' row) (hr : ∀ g, row = some g → w0.heap.size ≤ g) : Up w0 w' := Below.trans h ((Below.refl _ w).grown hg h.size hr)
theorem At.by {w w' : World} {b : Nat} {t : TypeId} {cs : List Value} {row : Option Nat} (h : At w b t cs) (hg : w.grownBy w' row) (hr : row ≠ some b) : At w' b t cs := by
  unfold At
  rw [hg.block b (lt_of_at h) (fun e => hr e.symm)]; exact h
theorem At.range {w : World} {b : Nat} {t : TypeId} {cs : List Value} (h : At w b t cs) : w.rangeAt b 0 cs := fun j v hj => by
  rw [Nat.zero_add]; exact h.cell hj
theorem alloc_size (w : World) (o : Obj) : (w.alloc o).heap.size = w.heap.size + 1 := by
  show (w.heap.push o).size = _
  simp
theorem At.there {w : World} {b : Nat} {t : TypeId} {cs : List Value} (h : At w b t cs) : w.there b 0 cs.length := fun j hj => by
  rw [Nat.zero_add]
  exact ⟨by rw [h.cell (List.getElem?_eq_getElem hj)]; rfl, h.thaw j⟩
theorem at_sets {b : Nat} {t : TypeId} : ∀ (vs : List Value) (o : Nat) {w : World} {cs : List Value}, At w b t cs → o + vs.length ≤ cs.length → At (w.setCells b o vs) b t (cs.take o ++ vs ++ cs.drop (o + vs.length))
  | [], o, w, cs, h, _ => by simpa [World.setCells] using h
  | v :: r, o, w, cs, h, hl => by
    have := at_sets r (o + 1) (h.set o v) (by simp at hl ⊢; omega)
    show At ((w.setCell ⟨b, o, none⟩ v).setCells b (o + 1) r) b t _
    have e : (cs.set o v).take (o + 1) ++ r ++ (cs.set o v).drop (o + 1 + r.length) = cs.take o ++ (v :: r) ++ cs.drop (o + (v :: r).length) := by
      simp only [List.length_cons] at hl ⊢
      rw [List.take_set, List.drop_set, if_pos (by omega), List.take_succ_eq_append_getElem (by omega)]
      rw [List.set_append, if_neg (by simp; omega)]
      simp [Nat.min_eq_left (by omega : o ≤ cs.length)]
      rw [show o + 1 + r.length = o + (r.length + 1) by omega]
    rw [e] at this
    exact this
theorem At.sets {w : World} {b : Nat} {t : TypeId} {cs vs : List Value} (h : At w b t cs) (hl : vs.length = cs.length) : At (w.setCells b 0 vs) b t vs := by
  have := at_sets vs 0 h (by omega)
  simpa [hl] using this
theorem grown_sets (b : Nat) : ∀ (vs : List Value) (o : Nat) (w : World), w.grownBy (w.setCells b o vs) (some b)
  | [], _, w => grown_refl w _
  | v :: r, o, w => grown_trans (grown_set w ⟨b, o, none⟩ v) (grown_sets b r (o + 1) _)
theorem wpList_store_at {P : Program} {ops : Array Oper} {rest : List Oper} {op : Oper} {a : Act} {w : World} {Q : Exit → Act → World → Prop} (hgd : op.guard = none) (ty : TypeId) (x y : Operand) (ho : op.op = .store ty x y)
    (b : Nat) {t : TypeId} {cs : List Value} (hA : At w b t cs) (vs : List Value) (hx : a.eval x = .pointer (some ⟨b, 0, none⟩)) (hy : a.eval y = .agg vs.toArray) (hl : vs.length = cs.length)
    (hi : (P.info? ty).map (·.size) = some vs.toArray.size) (h1 : vs.toArray.all (·.oneCell') = true)
    (h : ∀ w2, At w2 b t vs → w.grownBy w2 (some b) → wpList P ops Q rest (a.put op.dst undef) w2) : wpList P ops Q (op :: rest) a w :=
  wpList_store_mid hgd ty x y ho b 0 vs.toArray hx hy (by have := hA.there; rw [← hl] at this; simpa using this) hi h1 (h _ (hA.sets hl) (grown_sets b _ _ _))
theorem grown_at (w : World) (b i : Nat) (v : Value) : w.grownBy (w.setCell ⟨b, i, none⟩ v) (some b) := grown_set w ⟨b, i, none⟩ v
set_option maxRecDepth 100000 in
theorem due_walk (D : Nat) (x0 x1 x2 x3 x4 x5 x6 x7 x8 x9 x11 : Value) (w : World) (hA : At w D 85 [x0, x1, x2, x3, x4, x5, x6, x7, x8, x9, .int .i64 0, x11]) :
    Calls Tryz.prog 93 #[.pointer (some ⟨D, 0, none⟩)] w fun e w' => e = .returned (.int .i64 0) ∧ w' = w := by
  have hc := hA.cell (i := 10) rfl
  clear hA
  go_enter Tryz.func93, Tryz.ntmps93
  go_wp2
  go_ret
  exact ⟨rfl, rfl⟩
set_option maxRecDepth 100000 in
set_option maxHeartbeats 1000000 in
theorem act_err (D : Nat) (room used wrs trn acts own : Int) (vM vL vC vLo ft fv : Value) (w : World) (hA : At w D 85 [.int .i64 room, .int .i64 used, .bool false, vM, vL, vC, vLo, .int .i64 wrs, .int .i64 trn, .int .i64 acts, .int .i64 0, ft]) (h0 : 0 ≤ acts) (h1 : acts ≤ 4611686018427387904) (ho : own ≠ 0) :
    Calls Tryz.prog 45 #[.pointer (some ⟨D, 0, none⟩), .int .i64 own, fv] w fun e w1 => e = .returned (.int .i64 own) ∧ At w1 D 85 [.int .i64 room, .int .i64 used, .bool false, vM, vL, vC, vLo, .int .i64 wrs, .int .i64 trn, .int .i64 (acts + 1), .int .i64 0, ft] ∧ w.grownBy w1 (some D) := by
  have hc2 := hA.cell (i := 2) rfl
  have hc9 := hA.cell (i := 9) rfl
  have ht9 := hA.thaw 9
  have HA1 := Hid.of (hA.set 9 (.int .i64 (acts + 1)))
  have HG1 := Hid.of (grown_at w D 9 (.int .i64 (acts + 1)))
  have HD := Hid.of (due_walk D (.int .i64 room) (.int .i64 used) (.bool false) vM vL vC vLo (.int .i64 wrs) (.int .i64 trn) (.int .i64 (acts + 1)) ft _ HA1.out)
  have hoz : (own != 0) = true := by rw [bne_iff_ne]; exact ho
  clear hA ho
  go_enter Tryz.func45, Tryz.ntmps45
  go_wp2_with fail
  refine HD.out.mono ?_
  rintro e w1 ⟨rfl, rfl⟩
  dsimp only
  clear hc2 hc9 ht9
  go_wp2
  go_ret
  exact ⟨rfl, HA1.out, HG1.out⟩
set_option maxRecDepth 100000 in
set_option maxHeartbeats 1000000 in
theorem act_Create1 (D : Nat) (room used wrs trn acts : Int) (vM vL vC vLo ft c0 c1 : Value) (w : World) (hA : At w D 85 [.int .i64 room, .int .i64 used, .bool false, vM, vL, vC, vLo, .int .i64 wrs, .int .i64 trn, .int .i64 acts, .int .i64 0, ft]) (h0 : 0 ≤ acts) (h1 : acts ≤ 4611686018427387904) (Post : World → Prop)
    (H : ∀ w1, At w1 D 85 [.int .i64 room, .int .i64 used, .bool false, vM, vL, vC, vLo, .int .i64 wrs, .int .i64 trn, .int .i64 (acts + 1), .int .i64 0, ft] → w.grownBy w1 (some D) → Calls Tryz.prog 52 #[c0, c1] w1 fun e w2 => e = .returned (.tuple #[]) ∧ Post w2) :
    Calls Tryz.prog 45 #[.pointer (some ⟨D, 0, none⟩), .int .i64 0, .func (.func 52) #[] #[c0, c1]] w fun e w2 => e = .returned (.int .i64 0) ∧ Post w2 := by
  have hc2 := hA.cell (i := 2) rfl
  have hc9 := hA.cell (i := 9) rfl
  have ht9 := hA.thaw 9
  have HA1 := Hid.of (hA.set 9 (.int .i64 (acts + 1)))
  have HG1 := Hid.of (grown_at w D 9 (.int .i64 (acts + 1)))
  have HC := Hid.of (H _ HA1.out HG1.out)
  have HD := Hid.of (due_walk D (.int .i64 room) (.int .i64 used) (.bool false) vM vL vC vLo (.int .i64 wrs) (.int .i64 trn) (.int .i64 (acts + 1)) ft _ HA1.out)
  clear hA H HA1 HG1
  go_enter Tryz.func45, Tryz.ntmps45
  go_wp2_with fail
  refine HD.out.mono ?_
  rintro e w1 ⟨rfl, rfl⟩
  dsimp only
  clear hc2 hc9 ht9
  go_wp2_with fail
  refine HC.out.mono ?_
  rintro e w2 ⟨rfl, hp⟩
  have HP := Hid.of hp
  clear hp
  dsimp only
  go_wp2
  go_ret
  exact ⟨rfl, HP.out⟩
set_option maxRecDepth 100000 in
set_option maxHeartbeats 1000000 in
theorem act_Write1 (D : Nat) (room used wrs trn acts : Int) (vM vL vC vLo ft c0 c1 c2 c3 : Value) (w : World) (hA : At w D 85 [.int .i64 room, .int .i64 used, .bool false, vM, vL, vC, vLo, .int .i64 wrs, .int .i64 trn, .int .i64 acts, .int .i64 0, ft]) (h0 : 0 ≤ acts) (h1 : acts ≤ 4611686018427387904) (Post : World → Prop)
    (H : ∀ w1, At w1 D 85 [.int .i64 room, .int .i64 used, .bool false, vM, vL, vC, vLo, .int .i64 wrs, .int .i64 trn, .int .i64 (acts + 1), .int .i64 0, ft] → w.grownBy w1 (some D) → Calls Tryz.prog 57 #[c0, c1, c2, c3] w1 fun e w2 => e = .returned (.tuple #[]) ∧ Post w2) :
    Calls Tryz.prog 45 #[.pointer (some ⟨D, 0, none⟩), .int .i64 0, .func (.func 57) #[] #[c0, c1, c2, c3]] w fun e w2 => e = .returned (.int .i64 0) ∧ Post w2 := by
  have hc2 := hA.cell (i := 2) rfl
  have hc9 := hA.cell (i := 9) rfl
  have ht9 := hA.thaw 9
  have HA1 := Hid.of (hA.set 9 (.int .i64 (acts + 1)))
  have HG1 := Hid.of (grown_at w D 9 (.int .i64 (acts + 1)))
  have HC := Hid.of (H _ HA1.out HG1.out)
  have HD := Hid.of (due_walk D (.int .i64 room) (.int .i64 used) (.bool false) vM vL vC vLo (.int .i64 wrs) (.int .i64 trn) (.int .i64 (acts + 1)) ft _ HA1.out)
  clear hA H HA1 HG1
  go_enter Tryz.func45, Tryz.ntmps45
  go_wp2_with fail
  refine HD.out.mono ?_
  rintro e w1 ⟨rfl, rfl⟩
  dsimp only
  clear hc2 hc9 ht9
  go_wp2_with fail
  refine HC.out.mono ?_
  rintro e w2 ⟨rfl, hp⟩
  have HP := Hid.of hp
  clear hp
  dsimp only
  go_wp2
  go_ret
  exact ⟨rfl, HP.out⟩
set_option maxRecDepth 100000 in
set_option maxHeartbeats 1000000 in
theorem act_Sync1 (D : Nat) (room used wrs trn acts : Int) (vM vL vC vLo ft c0 c1 : Value) (w : World) (hA : At w D 85 [.int .i64 room, .int .i64 used, .bool false, vM, vL, vC, vLo, .int .i64 wrs, .int .i64 trn, .int .i64 acts, .int .i64 0, ft]) (h0 : 0 ≤ acts) (h1 : acts ≤ 4611686018427387904) (Post : World → Prop)
    (H : ∀ w1, At w1 D 85 [.int .i64 room, .int .i64 used, .bool false, vM, vL, vC, vLo, .int .i64 wrs, .int .i64 trn, .int .i64 (acts + 1), .int .i64 0, ft] → w.grownBy w1 (some D) → Calls Tryz.prog 46 #[c0, c1] w1 fun e w2 => e = .returned (.tuple #[]) ∧ Post w2) :
    Calls Tryz.prog 45 #[.pointer (some ⟨D, 0, none⟩), .int .i64 0, .func (.func 46) #[] #[c0, c1]] w fun e w2 => e = .returned (.int .i64 0) ∧ Post w2 := by
  have hc2 := hA.cell (i := 2) rfl
  have hc9 := hA.cell (i := 9) rfl
  have ht9 := hA.thaw 9
  have HA1 := Hid.of (hA.set 9 (.int .i64 (acts + 1)))
  have HG1 := Hid.of (grown_at w D 9 (.int .i64 (acts + 1)))
  have HC := Hid.of (H _ HA1.out HG1.out)
  have HD := Hid.of (due_walk D (.int .i64 room) (.int .i64 used) (.bool false) vM vL vC vLo (.int .i64 wrs) (.int .i64 trn) (.int .i64 (acts + 1)) ft _ HA1.out)
  clear hA H HA1 HG1
  go_enter Tryz.func45, Tryz.ntmps45
  go_wp2_with fail
  refine HD.out.mono ?_
  rintro e w1 ⟨rfl, rfl⟩
  dsimp only
  clear hc2 hc9 ht9
  go_wp2_with fail
  refine HC.out.mono ?_
  rintro e w2 ⟨rfl, hp⟩
  have HP := Hid.of hp
  clear hp
  dsimp only
  go_wp2
  go_ret
  exact ⟨rfl, HP.out⟩
end Go.Proofs.YtaibjeehjhlicaaGreatDoor
namespace Go.Proofs.YtaibjeehjhlicaaGreatDoor
open Go.RowKit Go.Shelf TextNum ModNum
/-- how a pointer reads -/
def rp : Value → Option (DataW Unit × List MemPlace)
  | .pointer none => some (.lit (.bool false), [])
  | .pointer (some ⟨b, 0, none⟩) => some (.lit (.int .i64 (b : Int)), [])
  | _ => none
theorem rp_inv {v : Value} {b : Nat} {ps : List MemPlace} (h : rp v = some (.lit (.int .i64 (b : Int)), ps)) : v = .pointer (some ⟨b, 0, none⟩) := by
  unfold rp at h
  split at h
  · cases h
  · rename_i b' 
    simp only [Option.some.injEq, Prod.mk.injEq, DataW.lit.injEq, Lit.int.injEq, true_and] at h
    obtain ⟨h, _⟩ := h
    obtain rfl : b' = b := by omega
    rfl
  · cases h
abbrev OM (w : World) (M n : Nat) (D : DataW Unit) : Prop := w.ownsMap Tryz.prog 9 rp M n D
abbrev fk : Lit := .string [102]
abbrev fd (F : Nat) : DataW Unit := .lit (.int .i64 (F : Int))
def D1 (F : Nat) : DataW Unit := (DataW.map []).put fk (fd F)
theorem D1_at (F : Nat) (z : DataW Unit) : (D1 F).atKey fk z = fd F := rfl
theorem D1_has (F : Nat) : Maps.has (D1 F) fk = true := rfl
set_option maxRecDepth 100000 in
theorem keyF : keyOf Tryz.prog 9 (.string ⟨#[102]⟩) = some fk := by kernel_rfl
theorem OM.up {w w' : World} {M n : Nat} {D : DataW Unit} (h : OM w M n D) (k : Up w w') : OM w' M n D := by
  have hl := World.ownsMap.lt h
  obtain ⟨es, cl, hb, r⟩ := h
  exact ⟨es, cl, (k.block M hl).trans hb, r⟩
set_option maxRecDepth 100000 in
set_option maxHeartbeats 1000000 in
theorem find_walk (D M F n : Nat) (x0 x1 x2 x4 x5 x6 x7 x8 x9 x10 x11 : Value) (w : World) (hG : ML w) (hA : At w D 85 [x0, x1, x2, .map (some M), x4, x5, x6, x7, x8, x9, x10, x11]) (hM : OM w M n (D1 F)) :
    Calls Tryz.prog 44 #[.pointer (some ⟨D, 0, none⟩), .string ⟨#[102]⟩] w fun e w' => e = .returned (.tuple #[.pointer (some ⟨F, 0, none⟩), .int .i64 0]) ∧ Up w w' := by
  have HN := Hid.of (isName_walk ⟨#[102]⟩ w hG)
  have HA := Hid.of hA
  have HM := Hid.of hM
  clear hA hM hG
  have e1 : isNm (⟨#[102]⟩ : ByteArray).data.toList = true := by decide +kernel
  rw [e1] at HN
  clear e1
  go_enter Tryz.func44, Tryz.ntmps44
  go_wp2_with fail
  refine HN.out.mono ?_
  rintro e w1 ⟨rfl, u1⟩
  have HU1 := Hid.of u1
  have hc := (HA.out.up u1).cell (i := 3) rfl
  have HM1 := Hid.of (HM.out.up u1)
  clear u1 HM HA
  dsimp only
  go_wp2_with (with_reducible show wpList _ _ _ ({ dst := _, op := Op.lookup 81 _ _ _, type := _, pos := _, after := _, guard := _ } :: _) _ _; refine Shut.out ?_)
  show wpList _ _ _ _ _ _
  refine wpList_lookup_own_ok _ rfl _ _ 81 rfl 9 88 (Maps.string_keyed Tryz.underlying9) Tryz.underlying81 rp (Tryz.zeroValue88 _) (.lit (.bool false)) [] rfl M n (D1 F) rfl HM1.out _ fk rfl keyF ?_
  intro v ps hv
  rw [D1_at] at hv
  obtain rfl := rp_inv hv
  rw [D1_has]
  clear hv
  simp only [Act.put, List.setIfInBounds_toArray, List.set_cons_zero, List.set_cons_succ]
  go_wp2
  go_ret2
  exact ⟨rfl, HU1.out⟩
end Go.Proofs.YtaibjeehjhlicaaGreatDoor
namespace Go.Proofs.YtaibjeehjhlicaaGreatDoor
open Go.RowKit Go.Shelf TextNum ModNum
/-- how far a write reaches beyond the end -/
def gro (n : Nat) (p : Int) (m : Nat) : Int := if m = 0 ∨ p + m ≤ n then 0 else p + m - n
set_option maxRecDepth 100000 in
set_option maxHeartbeats 1000000 in
theorem growth_walk (F n m : Nat) (p : Int) (an am : Option Addr) (cn cm : Nat) (x1 x2 : Value) (w : World) (hA : At w F 95 [.slice an n cn, x1, x2]) (h0 : 0 ≤ p) (h1 : p ≤ 1048576) (hm : m ≤ 140737488355328) (hn : n ≤ 35184372088832) :
    Calls Tryz.prog 96 #[.pointer (some ⟨F, 0, none⟩), .int .i64 p, .slice am m cm] w fun e w' => e = .returned (.int .i64 (gro n p m)) ∧ w' = w := by
  have hc := hA.cell (i := 0) rfl
  clear hA
  by_cases hm0 : m = 0
  · subst hm0
    have HR := Hid.of (show gro n p 0 = 0 from if_pos (.inl rfl))
    go_enter Tryz.func96, Tryz.ntmps96
    go_wp2
    go_ret
    rw [HR.out]
    exact ⟨rfl, rfl⟩
  · have hmz : ((m : Int) == 0) = false := by rw [beq_eq_false_iff_ne]; omega
    by_cases hle : p + m ≤ n
    · have HR := Hid.of (show gro n p m = 0 from if_pos (.inr hle))
      go_enter Tryz.func96, Tryz.ntmps96
      go_wp2
      go_ret
      rw [HR.out]
      exact ⟨rfl, rfl⟩
    · have HR := Hid.of (show gro n p m = p + m - n from if_neg (fun h => by rcases h with h | h; exact hm0 h; exact hle h))
      go_enter Tryz.func96, Tryz.ntmps96
      go_wp2
      go_ret
      rw [HR.out]
      exact ⟨rfl, rfl⟩
/-- what a write's own error is -/
def wrE (room n : Nat) (p : Int) (m : Nat) : Int := if p < 0 ∨ 1048576 < p then 1 else if 0 < gro n p m ∧ (room : Int) < n + gro n p m then 123 else 0
set_option maxRecDepth 100000 in
set_option maxHeartbeats 1000000 in
theorem writeError_walk (D F n m room : Nat) (p : Int) (an am : Option Addr) (cn cm : Nat) (x1 x2 y2 y3 y4 y5 y6 y7 y8 y9 y10 y11 : Value) (w : World) (hD : At w D 85 [.int .i64 (room : Int), .int .i64 (n : Int), y2, y3, y4, y5, y6, y7, y8, y9, y10, y11]) (hA : At w F 95 [.slice an n cn, x1, x2])
    (hm : m ≤ 140737488355328) (hn : n ≤ 35184372088832) (hr : room ≤ 35184372088832) :
    Calls Tryz.prog 56 #[.pointer (some ⟨D, 0, none⟩), .pointer (some ⟨F, 0, none⟩), .int .i64 p, .slice am m cm] w fun e w' => e = .returned (.int .i64 (wrE room n p m)) ∧ Up w w' := by
  by_cases hp0 : p < 0
  · have HR := Hid.of (show wrE room n p m = 1 from if_pos (.inl hp0))
    go_enter Tryz.func56, Tryz.ntmps56
    go_wp2
    go_ret
    rw [HR.out]
    exact ⟨rfl, Up.refl _⟩
  by_cases hp1 : 1048576 < p
  · have HR := Hid.of (show wrE room n p m = 1 from if_pos (.inr hp1))
    go_enter Tryz.func56, Tryz.ntmps56
    go_wp2
    go_ret
    rw [HR.out]
    exact ⟨rfl, Up.refl _⟩
  have HC := Hid.of (growth_walk F n m p an am cn cm x1 x2 w hA (by omega) (by omega) hm hn)
  have hc0 := hD.cell (i := 0) rfl
  have hc1 := hD.cell (i := 1) rfl
  have HE := Hid.of (show wrE room n p m = if 0 < gro n p m ∧ (room : Int) < n + gro n p m then 123 else 0 from if_neg (fun h => by rcases h with h | h <;> omega))
  have hg0 : 0 ≤ gro n p m := by
    unfold gro
    by_cases h : m = 0 ∨ p + m ≤ n
    · rw [if_pos h]; omega
    · rw [if_neg h]; omega
  have hg1 : gro n p m ≤ 140737488355328 + 1048576 := by
    unfold gro
    by_cases h : m = 0 ∨ p + m ≤ n
    · rw [if_pos h]; omega
    · rw [if_neg h]; omega
  generalize gro n p m = g at *
  clear hA hD
  by_cases hz : 0 < g
  · by_cases hf : (room : Int) < n + g
    · have HR := Hid.of (HE.out.trans (if_pos ⟨hz, hf⟩))
      clear HE
      go_enter Tryz.func56, Tryz.ntmps56
      go_wp2_with fail
      refine HC.out.mono ?_
      rintro e w1 ⟨rfl, rfl⟩
      dsimp only
      go_wp2
      go_region
      go_wp2
      go_ret
      rw [HR.out]
      exact ⟨rfl, (Up.refl _).drew⟩
    · have HR := Hid.of (HE.out.trans (if_neg (fun h => hf h.2)))
      clear HE
      go_enter Tryz.func56, Tryz.ntmps56
      go_wp2_with fail
      refine HC.out.mono ?_
      rintro e w1 ⟨rfl, rfl⟩
      dsimp only
      go_wp2
      go_region
      go_wp2
      go_ret
      rw [HR.out]
      exact ⟨rfl, (Up.refl _).drew⟩
  · have HR := Hid.of (HE.out.trans (if_neg (fun h => hz h.1)))
    obtain rfl : g = 0 := by omega
    clear HE hz hg0 hg1
    go_enter Tryz.func56, Tryz.ntmps56
    go_wp2_with fail
    refine HC.out.mono ?_
    rintro e w1 ⟨rfl, rfl⟩
    dsimp only
    go_wp2
    go_region
    go_wp2
    go_ret
    rw [HR.out]
    exact ⟨rfl, (Up.refl _).drew⟩
end Go.Proofs.YtaibjeehjhlicaaGreatDoor
