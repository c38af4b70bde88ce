import Derived.Test.YtkaoalcffgnfeaaGreatDoorJd
import Derived.Test.YtkaoalcffgnfeaaGreatDoorJb
import Derived.Lib.ConvBytes
import Derived.Test.YtkaoalcffgnfeaaGreatDoorJa
namespace Go.Proofs.YtkaoalcffgnfeaaGreatDoor
open Go.RowKit Go.Shelf TextNum
def OwnM (w : World) (B : Nat) (v : Value) (l : List UInt8) : Prop := ∃ g cap cur fr, v = .slice (some ⟨g, 0, none⟩) l.length cap ∧ B ≤ g ∧ w.heap[g]? = some (.cells cur 5 fr) ∧ (fr.2 = 0 ∨ cap ≤ fr.1) ∧ l.length ≤ cap ∧ cap ≤ maxLen ∧ cur.size = cap ∧ cur.toList.take l.length = cb l
theorem OwnM.up {w w' : World} {B : Nat} {v : Value} {l : List UInt8} (h : OwnM w B v l) (k : Up w w') : OwnM w' B v l := by
 obtain ⟨g, cap, cur, fr, rfl, hB, hg, r⟩ := h
 refine ⟨g, cap, cur, fr, rfl, hB, ?_, r⟩
 rw [k.block g (Array.getElem?_eq_some_iff.1 hg).1]; exact hg
theorem OwnM.base {w : World} {B B' : Nat} {v : Value} {l : List UInt8} (h : OwnM w B v l) (hB : B' ≤ B) : OwnM w B' v l := by
 obtain ⟨g, cap, cur, fr, e, hb, r⟩ := h
 exact ⟨g, cap, cur, fr, e, Nat.le_trans hB hb, r⟩
theorem OwnM.cells {w : World} {B : Nat} {g cap : Nat} {l : List UInt8} (h : OwnM w B (.slice (some ⟨g, 0, none⟩) l.length cap) l) : g < w.heap.size ∧ ∀ j u, (cb l)[j]? = some u → w.cell? ⟨g, j, none⟩ = some u := by
 obtain ⟨g', cap', cur, fr, e, hB, hg, _, _, _, _, ht⟩ := h
 injection e with e1 _ _
 injection e1 with e1
 injection e1 with e1 _ _
 subst e1
 refine ⟨(Array.getElem?_eq_some_iff.1 hg).1, fun j u hu => ?_⟩
 rw [cell_of_row w g j cur _ fr hg]
 rw [← ht, List.getElem?_take] at hu
 split at hu
 · simpa using hu
 · cases hu
theorem run_storeCells_mk (P : Program) (g o : Nat) (t : TypeId) (fz : Nat × Nat) : ∀ (vs : List Value) (i : Nat) (cur : Array Value) (w : World), w.heap[g]? = some (.cells cur t fz) → (fz.2 = 0 ∨ cur.size ≤ fz.1) → o + i + vs.length ≤ cur.size → (∀ v ∈ vs, v.oneCell' = true) →
 (storeCells ⟨g, o, none⟩ vs i).run P w = .ok () (w.setRow g (cur.toList.take (o + i) ++ vs ++ cur.toList.drop (o + i + vs.length)).toArray)
 | [], i, cur, w, hg, _, _, _ => by
  simp only [storeCells, List.append_nil, List.length_nil, Nat.add_zero, List.take_append_drop, Array.toArray_toList]
  rw [setRow_self w g cur t fz hg]
  rfl
 | v :: rest, i, cur, w, hg, hfz, hl, h1 => by
  have hi : o + i < cur.size := by simp at hl; omega
  have hadd : (⟨g, o, none⟩ : Addr).add i = ⟨g, o + i, none⟩ := by unfold Addr.add; split <;> simp_all
  have hcell : w.cell? ⟨g, o + i, none⟩ = some cur[o + i] := by simp [World.cell?, hg, hi]
  have hfro : w.frozen? ⟨g, o + i, none⟩ = false := by
   obtain ⟨lo, hi'⟩ := fz
   simp only [World.frozen?, hg, Bool.and_eq_false_iff, decide_eq_false_iff_not]
   simp only at hfz
   omega
  have hst : (store ((⟨g, o, none⟩ : Addr).add i) v).run P w = .ok () (w.setRow g (cur.setIfInBounds (o + i) v)) := by
   rw [hadd, run_store P w _ v _ (h1 v (by simp)), hcell]
   simp [hfro, setCell_eq_setRow w g (o + i) cur t fz v hg]
  have ih := run_storeCells_mk P g o t fz rest (i + 1) (cur.setIfInBounds (o + i) v) (w.setRow g (cur.setIfInBounds (o + i) v)) (setRow_heap w g cur _ t _ hg) (by simpa using hfz) (by simp at hl ⊢; omega) (fun x hx => h1 x (by simp [hx]))
  simp only [storeCells, Sem.run_bind, hst, Result.andThen_ok, ih, setRow_setRow]
  congr 3
  have e := list_seg_step cur.toList (o + i) v rest (by simp at hl ⊢; omega)
  simpa [Array.toList_setIfInBounds, Nat.add_assoc] using e
theorem run_app_srcM {w : World} {B : Nat} {v : Value} {l : List UInt8} (xT : TypeId) (sv' : Value) (m : List UInt8) (ty : TypeId) (hk : Tryz.prog.underlying xT = some .string ∨ Tryz.prog.underlying xT = some (.slice 5)) (hs1 : Src Tryz.prog 1 xT sv' m.length (cb m) w) (hown : OwnM w B v l) (hn : l.length + m.length ≤ 140737488355328) (hB : B ≤ w.heap.size) :
 ∃ v' w', (Builtin.append_ #[23, xT] ty #[v, sv']).run Tryz.prog w = .ok v' w' ∧ OwnM w' B v' (l ++ m) ∧ Below B w w' := by
 obtain ⟨i, hi, hz, hsize, hby⟩ := info_parts Tryz.infoU8
 have ht : Tryz.prog.underlying 23 = some (.slice 5) := Tryz.underlying23
 have hs : Src Tryz.prog i.size xT sv' m.length (cb m) w := by rw [hsize]; exact hs1
 have hlen : (cb l ++ cb m).length = l.length + m.length := by simp [cb]
 have h0 := hown
 obtain ⟨g, cap, cur, fr, rfl, hbg, hg, hfr, hnc, hcm, hcs, htake⟩ := hown
 by_cases hroom : l.length + m.length ≤ cap
 · have hfit : l.length + (cb m).length ≤ cur.size := by rw [hcs, cb_length]; omega
   have hst := run_storeCells_mk Tryz.prog g (l.length * i.size) 5 fr (cb m) 0 cur w hg (by rw [hcs]; exact hfr) (by rw [hsize]; simpa using hfit) (cb_one m)
   simp only [Nat.add_zero] at hst
   have hr : (Builtin.append_ #[23, xT] ty #[.slice (some ⟨g, 0, none⟩) l.length cap, sv']).run Tryz.prog w =
    .ok (.slice (some ⟨g, 0, none⟩) (l.length + m.length) cap) (w.setRow g (cur.toList.take (l.length * i.size) ++ cb m ++ cur.toList.drop (l.length * i.size + (cb m).length)).toArray) := by
    rcases hk with hk | hk <;> simp [Builtin.append_, run_underlying ht, run_underlying hk, sizeOf, typeInfo, hi, hs.len, hroom, hs.cells, Addr.add_lit, hst]
   refine ⟨_, _, hr, ⟨g, cap, _, fr, by rw [List.length_append], hbg, setRow_heap w g cur _ 5 _ hg, hfr, by rw [List.length_append]; exact hroom, hcm, ?_, ?_⟩, ⟨rfl, rfl, rfl, by simp, fun k hk => setRow_other w g k _ (by omega)⟩⟩
   · simp only [List.size_toArray, List.length_append, List.length_take, List.length_drop, Array.length_toList, cb_length, hsize]
     omega
   · rw [hsize, Nat.mul_one, htake, cb_append, List.length_append, ← hlen]
     exact List.take_left
 · obtain ⟨_, holds⟩ := h0.cells
   have hold := run_firstCells_some (P := Tryz.prog) w.drew i.size l.length ⟨g, 0, none⟩ l.length cap (cb l) (by rw [hsize, cb_length, Nat.mul_one]) (fun j u hj => by rw [Addr.add_lit, Nat.zero_add]; exact (World.cell?_drew _ _).trans (holds j u hj))
   have hr := run_append_grow_src (P := Tryz.prog) w 23 xT ty 5 i _ ht hi hz (some ⟨g, 0, none⟩) l.length cap (cb l) hold _ m.length (cb m) hs (by omega) (by omega) (growslice_fits (by omega) (by rw [hby]; omega))
   have hge := grownCap_ge w (l.length + m.length) cap 5
   have hcm2 : grownCap w (l.length + m.length) cap 5 ≤ maxLen := grownCap_le_maxLen w _ cap _ (by unfold maxLen; omega)
   refine ⟨_, _, hr, ⟨w.heap.size, _, _, (0, 0), by rw [List.length_append], hB, heap_alloc_new w.drew _, .inl rfl, by rw [List.length_append]; exact hge, hcm2, ?_, ?_⟩, Below.alloc (Below.drew (Below.refl B w)) hB _⟩
   · simp only [Array.size_append, List.size_toArray, size_zeroCells, hlen]
     simp [Value.cells]
     omega
   · simp only [Array.toList_append, cb_append, List.length_append]
     rw [← hlen]
     exact List.take_left
theorem src_sb {w : World} {v : Value} {m : List UInt8} (h : Sb w v m) : Src Tryz.prog 1 23 v m.length (cb m) w := by
 obtain ⟨ay, cy, rfl, k1, k2, k3, k4⟩ := h
 cases ay with
 | none =>
  obtain ⟨rfl, rfl⟩ := k3 rfl
  exact Src.ofNil w Tryz.underlying23 0
 | some ad => exact Src.ofSlice w Tryz.underlying23 ad m.length cy (cb m) (by rw [cb_length, Nat.mul_one]) (k4 ad rfl).2 (cb_one m)
theorem src_str (w : World) (s : ByteArray) : Src Tryz.prog 1 9 (.string s) s.data.toList.length (cb s.data.toList) w := by
 have h := Src.ofString w Tryz.underlying9 s
 have e : byteCells s = cb s.data.toList := by simp [byteCells, cb]
 rw [e, Go.Lib.size_eq] at h
 exact h
theorem wpList_appM {ops : Array Oper} {rest : List Oper} {o : Oper} {a : Act} {w : World} {Q : Exit → Act → World → Prop} (hgd : o.guard = none) (s x : Operand) (xT : TypeId)
 (ho : o.op = .call { callee := .builtin .append, args := #[s, x], argTypes := #[23, xT] }) (B q : Nat) (ax : Option Addr) (cx : Nat) (vy : Value) (l m : List UInt8) (hs : a.eval s = .slice ax q cx) (hown : OwnM w B (.slice ax q cx) l) (hq : l.length = q)
 (hx : a.eval x = vy) (hk : Tryz.prog.underlying xT = some .string ∨ Tryz.prog.underlying xT = some (.slice 5)) (hS : Src Tryz.prog 1 xT vy m.length (cb m) w) (hn : l.length + m.length ≤ 140737488355328) (hB : B ≤ w.heap.size)
 (h : ∀ a2 c2 w', OwnM w' B (.slice a2 (q + m.length) c2) (l ++ m) → Below B w w' → wpList Tryz.prog ops Q rest (a.put o.dst (.slice a2 (q + m.length) c2)) w') : wpList Tryz.prog ops Q (o :: rest) a w := by
 subst hq
 refine wpList_plain hgd fun K hK => ?_
 obtain ⟨v', w', hr, h2, h3⟩ := run_app_srcM xT vy m o.type hk hS hown hn hB
 obtain ⟨a2, c2, rfl⟩ : ∃ a2 c2, v' = .slice a2 (l.length + m.length) c2 := by
  obtain ⟨g, cap, cur, fr, e, _⟩ := h2
  exact ⟨_, _, by rw [e, List.length_append]⟩
 unfold Oper.wp execOp
 simp only [ho, resolve, invoke, builtin, Sem.run_bind, Sem.run_pure, Result.andThen_ok, List.map_toArray, List.map_cons, List.map_nil, hs, hx, hr]
 exact hK _ _ (h a2 c2 w' h2 h3)
theorem OwnM.sb {w : World} {B : Nat} {v : Value} {l : List UInt8} (h : OwnM w B v l) : Sb w v l := by
 have h0 := h
 obtain ⟨g, cap, cur, fr, rfl, hB, hg, _, hc, hm, _⟩ := h
 obtain ⟨h1, h2⟩ := h0.cells
 exact ⟨_, cap, rfl, hc, hm, (fun e => by cases e), fun ad e => by
  obtain rfl := Option.some.inj e
  exact ⟨fun _ => rfl, fun j u hj => by rw [Addr.add_lit, Nat.zero_add]; exact h2 j u hj⟩⟩
theorem below_up {w w' : World} {B : Nat} (h : Below B w w') {W : World} (hu : Up W w) (hB : W.heap.size ≤ B) : Up W w' :=
 ⟨h.os.trans hu.os, h.tape.trans hu.tape, h.output.trans hu.output, Nat.le_trans hu.size h.size, fun j hj => (h.block j (by omega)).trans (hu.block j hj)⟩
theorem conv_str (w : World) (t : ByteArray) (ht : t.size ≤ 140737488355328) : ∃ v w', (convert 9 23 (.string t)).run Tryz.prog w = .ok v w' ∧ OwnM w' w.heap.size v t.data.toList ∧ Up w w' := by
 have hge := grownCap_ge w t.size 0 5
 have hcm : grownCap w t.size 0 5 ≤ maxLen := grownCap_le_maxLen w _ 0 _ (by unfold maxLen; omega)
 have hc : (Go.Lib.bytesCells w 5 t).size = grownCap w t.size 0 5 := by
  simp only [Go.Lib.bytesCells, Array.size_append, Array.size_map, Array.size_replicate]
  have : t.data.size = t.size := rfl
  omega
 refine ⟨_, _, Go.Lib.run_convert_string_bytes (P := Tryz.prog) w 9 23 5 t Tryz.underlying9 Tryz.underlying23 Tryz.underlying5, ⟨w.heap.size, _, Go.Lib.bytesCells w 5 t, _, by rw [← Go.Lib.size_eq], Nat.le_refl _, Go.Lib.bytesWorld_at_new w 5 t, .inr (by rw [hc]; exact Nat.le_refl _), by rw [← Go.Lib.size_eq]; exact hge, hcm, hc, ?_⟩, ⟨rfl, rfl, rfl, by rw [Go.Lib.bytesWorld_size]; omega, fun j hj => Go.Lib.bytesWorld_at_old w 5 t j hj⟩⟩
 simp only [Go.Lib.bytesCells, Array.toList_append, Array.toList_map]
 have : (t.data.toList.map fun b => Value.int .u8 (b.toNat : Int)) = cb t.data.toList := rfl
 rw [this, show t.data.toList.length = (cb t.data.toList).length by rw [cb_length]]
 exact List.take_left
theorem wpList_conv {ops : Array Oper} {rest : List Oper} {o : Oper} {a : Act} {w : World} {Q : Exit → Act → World → Prop} (hgd : o.guard = none) (s : Operand)
 (ho : o.op = .convert 9 23 s) (t : ByteArray) (ht : t.size ≤ 140737488355328) (hs : a.eval s = .string t)
 (h : ∀ v' w', OwnM w' w.heap.size v' t.data.toList → Up w w' → wpList Tryz.prog ops Q rest (a.put o.dst v') w') : wpList Tryz.prog ops Q (o :: rest) a w := by
 refine wpList_plain hgd fun K hK => ?_
 obtain ⟨v', w', hr, h2, h3⟩ := conv_str w t ht
 unfold Oper.wp execOp
 simp only [ho, Sem.run_bind, Sem.run_pure, Result.andThen_ok, hs, hr]
 exact hK _ _ (h v' w' h2 h3)
theorem src_lnb (w : World) (f : FD) : Src Tryz.prog 1 9 (.string (f.n ++ (⟨#[58, 32]⟩ : ByteArray) ++ f.v ++ (⟨#[13, 10]⟩ : ByteArray))) (lnb f).length (cb (lnb f)) w := by
 have h := src_str w (f.n ++ (⟨#[58, 32]⟩ : ByteArray) ++ f.v ++ (⟨#[13, 10]⟩ : ByteArray))
 rw [bat_app, bat_app, bat_app] at h
 exact h
set_option maxRecDepth 100000 in
set_option maxHeartbeats 2000000 in
theorem Rlaid_walk (s : ByteArray) (a : Option Addr) (fs : List FD) (c : Nat) (vb' : Value) (bd : List UInt8) (w : World) (h : FdL w a fs c) (hb : Sb w vb' bd) (hs : s.size ≤ 1048576) (hl : szs fs ≤ 1048576) (hbl : bd.length ≤ 1048576) :
 Calls Tryz.prog 38 #[.string s, .slice a fs.length c, vb'] w fun e w' => (∃ a2 c2, e = .returned (.slice a2 (prt s.data.toList fs bd).length c2) ∧ Hd (Sb w' (.slice a2 (prt s.data.toList fs bd).length c2) (prt s.data.toList fs bd))) ∧ Up w w' := by
 have HF := Ho h
 have HB := Ho hb
 have hcap := h.cap
 have hsl := szs_len fs
 have HZs := Ho (fun i => szs_take fs i)
 obtain ⟨ab, nb, cb', rfl⟩ := Sb.shape hb
 have hsz := Go.Lib.size_eq s
 have HSz := Ho hsz
 clear h hb hsz
 obtain ⟨st2, hst2⟩ := ny (s.data.toList ++ [13, 10])
 have HSt := Ho hst2
 have hstl : st2.length ≤ 1048578 := by rw [← hst2, List.length_append, ← HSz.o]; simp; omega
 have hl1 : ¬ 9223372036854775807 < s.size + 2 := by omega
 have HBt := Ho (show (s ++ (⟨#[13, 10]⟩ : ByteArray)).data.toList = st2 by rw [bat_app]; exact hst2)
 have HB2 := Ho (show (s ++ (⟨#[13, 10]⟩ : ByteArray)).size ≤ 140737488355328 by rw [Go.Lib.size_eq, HBt.o]; omega)
 clear hst2
 go_enter Tryz.func38, Tryz.ntmps38
 go_wp2_with (with_reducible show wpList _ _ _ (⟨_, .convert 9 23 _, _, _, _, _⟩ :: _) _ _; refine Shut.out ?_)
 show wpList _ _ _ _ _ _
 refine wpList_conv rfl _ rfl (s ++ ⟨#[13, 10]⟩) HB2.o rfl ?_
 intro v2 w2 o2 u2
 rw [HBt.o] at o2
 obtain ⟨a2, c2, rfl⟩ : ∃ a2 c2, v2 = .slice a2 st2.length c2 := by
  obtain ⟨g, cap, cur, fr, e, _⟩ := o2
  exact ⟨_, _, e⟩
 have HO2 := Ho o2
 have HU2 := Ho u2
 clear o2 u2 hl1
 simp only [Act.put, pB, pC, pD]
 go_wp2
 go_loopw [7, 8] (fun v7 v8 wr => ∃ i : Nat, v8 = .int .i64 (i : Int) ∧ i ≤ fs.length ∧ ∃ q a7 c7, v7 = .slice a7 q c7 ∧ q ≤ 4194304 ∧ Hd (OwnM wr w.heap.size (.slice a7 q c7) (st2 ++ lbs (fs.take i)) ∧ Up w wr ∧ (st2 ++ lbs (fs.take i)).length = q)) (fun _ v8 _ => fs.length - (intOf v8).toNat)
 case atStart => exact ⟨0, rfl, Nat.zero_le _, st2.length, a2, c2, rfl, by omega, Ho ⟨by rw [List.take_zero]; show OwnM w2 w.heap.size _ (st2 ++ []); rw [List.append_nil]; exact HO2.o, HU2.o, by rw [List.take_zero]; show (st2 ++ []).length = _; rw [List.append_nil]⟩⟩
 case round =>
  obtain ⟨i, rfl, hi, q, a7, c7, rfl, hq, hU⟩ := hrel
  have HO := Ho hU.o.1
  have HU := Ho hU.o.2.1
  have HXq := Ho hU.o.2.2
  clear hU
  by_cases hil : i < fs.length
  · have hilz : (i : Int) < (fs.length : Int) := by omega
    obtain ⟨b, off, rfl, k1, k2⟩ := HF.o.cells i hil
    have HT := Ho (List.take_succ_eq_append_getElem hil)
    obtain ⟨f, hf⟩ := ny (fs[i])
    rw [hf] at k1 k2 HT
    have HK1 := Ho k1
    have HK2 := Ho k2
    have h5 := HZs.o (i + 1)
    rw [HT.o, szs_snoc] at h5
    have h6 := lbs_len (fs.take i)
    have h7 := HXq.o
    rw [List.length_append] at h7
    have HZf := Ho (show szf f = f.n.size + f.v.size + 4 from rfl)
    have h8 : szf f ≤ 1048576 := by omega
    have h9 : q + (lnb f).length ≤ 4194304 := by rw [lnb_len]; omega
    have hf1 : ¬ 9223372036854775807 < f.n.size + 2 := by have := HZf.o; omega
    have hf2 : ¬ 9223372036854775807 < f.n.size + 2 + f.v.size := by have := HZf.o; omega
    have hf3 : ¬ 9223372036854775807 < f.n.size + 2 + f.v.size + 2 := by have := HZf.o; omega
    obtain ⟨X, hX⟩ := ny (st2 ++ lbs (fs.take i))
    have HXe := Ho hX
    rw [hX] at HO HXq
    have HL8 := Ho (show (st2 ++ lbs (fs.take (i + 1))).length = q + (lnb f).length by rw [HT.o, lbs_snoc, ← List.append_assoc, hX, List.length_append, HXq.o])
    clear hf k1 k2 hX h5 h6 h7
    go_wp2
    refine wp_region_held_drew (S := fun w2 => Up w w2) (by kernel_rfl) HU.o.drew (fun hS => ?_)
    refine tN 0 (some 18) (.move (.tmp 7)) 23 (.slice a7 q c7) hS ?_
    simp only [pA, pB, pC, pD]
    refine tN 1 (some 19) (.move (.tmp 1)) 42 (.slice (some ⟨b, off, none⟩) fs.length c) hS ?_
    simp only [pA, pB, pC, pD]
    refine tN 2 (some 20) (.move (.tmp 8)) 3 (.int .i64 (i : Int)) hS ?_
    simp only [pA, pB, pC, pD]
    refine tK 3 (some 21) (.indexAddr 42 (.tmp 19) (.tmp 20)) 0 (.pointer (some ⟨b, off + i * 2, none⟩)) hS ?_ ?_
    · intro _ _ w5 hSw
      clear hSw hS
      exact exec_idxRf i hil rfl rfl rfl
    simp only [pA, pB, pC, pD]
    refine tN 4 (some 22) (.fieldAddr 85 (.tmp 21) 0) 0 (.pointer (some ⟨b, off + i * 2, none⟩)) hS ?_
    simp only [pA, pB, pC, pD]
    refine tK 5 (some 23) (.load 9 (.tmp 22)) 9 (.string f.n) hS ?_ ?_
    · intro _ _ w5 hSw
      have h0 := hSw.cell HK1.o
      clear hSw hS
      go_simp
    simp only [pA, pB, pC, pD]
    refine tN 6 (some 24) (.binOp .add 9 (.tmp 23) (.const (.string { data := #[58, 32] })) 9) 9 (.string (f.n ++ (⟨#[58, 32]⟩ : ByteArray))) hS ?_
    simp only [pA, pB, pC, pD]
    refine tN 7 (some 25) (.move (.tmp 1)) 42 (.slice (some ⟨b, off, none⟩) fs.length c) hS ?_
    simp only [pA, pB, pC, pD]
    refine tN 8 (some 26) (.move (.tmp 8)) 3 (.int .i64 (i : Int)) hS ?_
    simp only [pA, pB, pC, pD]
    refine tK 9 (some 27) (.indexAddr 42 (.tmp 25) (.tmp 26)) 0 (.pointer (some ⟨b, off + i * 2, none⟩)) hS ?_ ?_
    · intro _ _ w5 hSw
      clear hSw hS
      exact exec_idxRf i hil rfl rfl rfl
    simp only [pA, pB, pC, pD]
    refine tN 10 (some 28) (.fieldAddr 85 (.tmp 27) 1) 0 (.pointer (some ⟨b, off + i * 2 + 1, none⟩)) hS ?_
    simp only [pA, pB, pC, pD]
    refine tK 11 (some 29) (.load 9 (.tmp 28)) 9 (.string f.v) hS ?_ ?_
    · intro _ _ w5 hSw
      have h0 := hSw.cell HK2.o
      clear hSw hS
      go_simp
    simp only [pA, pB, pC, pD]
    refine tN 12 (some 30) (.binOp .add 9 (.tmp 24) (.tmp 29) 9) 9 (.string (f.n ++ (⟨#[58, 32]⟩ : ByteArray) ++ f.v)) hS ?_
    simp only [pA, pB, pC, pD]
    refine tN 13 (some 31) (.binOp .add 9 (.tmp 30) (.const (.string { data := #[13, 10] })) 9) 9 (.string (f.n ++ (⟨#[58, 32]⟩ : ByteArray) ++ f.v ++ (⟨#[13, 10]⟩ : ByteArray))) hS ?_
    simp only [pA, pB, pC, pD]
    refine rD 14 (some 32) (.call ⟨.builtin .append, #[.tmp 18, .tmp 31], #[23, 9]⟩) 23 fun _ _ K hK => oper_of_list ?_
    refine wpList_appM (w := wr.drew) rfl _ _ 9 rfl w.heap.size q a7 c7 _ X (lnb f) rfl (HO.o.up (Up.refl _).drew) HXq.o rfl (.inl Tryz.underlying9) (src_lnb _ f) (by rw [HXq.o, lnb_len]; have := HZf.o; omega) HU.o.drew.size ?_
    intro a8 c8 w8 o8 b8
    have HU8 := Ho (below_up b8 HU.o.drew (Nat.le_refl _))
    have HO8 := Ho (show OwnM w8 w.heap.size (.slice a8 (q + (lnb f).length) c8) (st2 ++ lbs (fs.take (i + 1))) by rw [HT.o, lbs_snoc, ← List.append_assoc, HXe.o]; exact o8)
    clear o8 b8
    refine hK.out _ _ HU8.o (fun hS => ?_)
    clear hK K
    simp only [Act.put, pB, pC, pD]
    refine tN 15 (some 7) (.assign (.tmp 32)) 23 (.slice a8 (q + (lnb f).length) c8) hS ?_
    simp only [pA, pB, pC, pD]
    clear hS
    refine wpAnyH_done (by kernel_rfl) ?_ _
    go_wp2
    go_roundw
    all_goals first
     | exact ⟨i + 1, by go_num, by omega, q + (lnb f).length, a8, c8, rfl, h9, Ho ⟨HO8.o, HU8.o, HL8.o⟩⟩
     | (simp [intOf]; omega)
  · have hilz : ¬ (i : Int) < (fs.length : Int) := by omega
    obtain ⟨X, hX⟩ := ny (st2 ++ lbs (fs.take i))
    have HXe := Ho (show X ++ [13, 10] ++ bd = prt s.data.toList fs bd by rw [← hX, List.take_of_length_le (by omega), ← HSt.o]; rfl)
    rw [hX] at HO HXq
    clear hX
    go_wp2_with (with_reducible refine sA ?_)
    show wpList _ _ _ _ _ _
    refine wpList_appM rfl _ _ 9 rfl w.heap.size q a7 c7 _ X [13, 10] rfl HO.o HXq.o rfl (.inl Tryz.underlying9) (src_str wr ⟨#[13, 10]⟩) (by rw [HXq.o]; simp only [List.length_cons, List.length_nil]; omega) HU.o.size ?_
    intro a8 c8 w8 o8 b8
    have HU8 := Ho (below_up b8 HU.o (Nat.le_refl _))
    have HO8 := Ho o8
    clear o8 b8
    simp only [Act.put, pB, pC, pD]
    go_wp2_with (with_reducible refine sA ?_)
    show wpList _ _ _ _ _ _
    refine wpList_appM rfl _ _ 23 rfl w.heap.size _ a8 c8 _ (X ++ [13, 10]) bd rfl HO8.o (by rw [List.length_append, HXq.o]) rfl (.inr Tryz.underlying23) (src_sb (HB.o.up HU8.o)) (by rw [List.length_append, HXq.o]; simp only [List.length_cons, List.length_nil]; omega) HU8.o.size ?_
    intro a9 c9 w9 o9 b9
    have HU9 := Ho (below_up b9 HU8.o (Nat.le_refl _))
    have hll : q + ([13, 10] : List UInt8).length + bd.length = (prt s.data.toList fs bd).length := by rw [← HXe.o, List.length_append, List.length_append, HXq.o]
    rw [HXe.o, hll] at o9
    rw [hll]
    have HO9 := Ho o9.sb
    clear o9 b9 hll
    simp only [Act.put, pB, pC, pD]
    go_wp2
    go_ret
    exact ⟨⟨a9, c9, rfl, HO9⟩, HU9.o⟩
end Go.Proofs.YtkaoalcffgnfeaaGreatDoor
namespace Go.Proofs.YtkaoalcffgnfeaaGreatDoor
open Go.RowKit Go.Shelf TextNum
abbrev StO (w : World) (N : Nat) (a : Option Addr) (ss : List ByteArray) (c : Nat) : Prop := w.ownsRow N 9 1 (.slice a ss.length c) ss.length (ss.map Value.string)
theorem StO.stl {w : World} {N : Nat} {a : Option Addr} {ss : List ByteArray} {c : Nat} (h : StO w N a ss c) : StL w a ss c := by
 refine ⟨?_, fun i hi => ?_⟩
 · rcases h.2 with ⟨_, h0⟩ | ⟨g, cap, cur, e, _, _, hc, _⟩
   · omega
   · injection e with _ _ e3
     omega
 · rcases h.2 with ⟨_, h0⟩ | ⟨g, cap, cur, e, _, _, hc, _⟩
   · omega
   · injection e with e1 _ e3
     subst e1 e3
     have hc := World.ownsRow.cells h rfl
     have h1 := hc i (.string ss[i]) (by rw [List.getElem?_map, List.getElem?_eq_getElem hi]; rfl)
     rw [Addr.add_lit] at h1
     exact ⟨g, 0, rfl, h1⟩
theorem Tryz.infoSt : (Tryz.prog.info? 9).map (fun i => (i.zero, i.size, i.bytes)) = some (some (.string ⟨#[]⟩), 1, 16) := by kernel_rfl
theorem wpList_appSt {w : World} {N q : Nat} {ops : Array Oper} {rest : List Oper} {o : Oper} {a : Act} {Q : Exit → Act → World → Prop} (hgd : o.guard = none) (x y : Operand)
 (ho : o.op = .call { callee := .builtin .append, args := #[x, y], argTypes := #[22, 22] }) (ax : Option Addr) (cx : Nat) (fs : List ByteArray) (f : ByteArray) (hq : fs.length = q) (hx : a.eval x = .slice ax q cx) (hy : a.eval y = .slice (some ⟨w.heap.size, 0, none⟩) 1 1)
 (hR : StO w N ax fs cx) (hNw : N ≤ w.heap.size) (hql : q ≤ 1099511627776)
 (K : ∀ ax2 cx2 w', StO w' N ax2 (fs ++ [f]) cx2 → (∀ W, Up W w → W.heap.size ≤ N → Up W w') → wpList Tryz.prog ops Q rest (a.put o.dst (.slice ax2 (q + 1) cx2)) w') :
 wpList Tryz.prog ops Q (o :: rest) a (w.alloc (.cells #[.string f] 9)) := by
 subst hq
 obtain ⟨i1, hi1, hz0, hz1, hz2⟩ := info_parts Tryz.infoSt
 have HUx := (Up.refl w).alloc (.cells #[.string f] 9)
 have hnu := ow_up hR HUx
 refine wpList_append_own _ hgd x y 22 ho N 9 i1 (.string ⟨#[]⟩) 1 16 Tryz.underlying22 hi1 hz0 hz1 hz2 rfl (by omega) (.slice ax fs.length cx) fs.length _ hx hnu ⟨w.heap.size, 0, none⟩ 1 1 [.string f] hy rfl ?_ ?_ (by simp only [maxLen]; omega) (by omega) (Nat.le_trans hNw HUx.size) ?_
 · intro j u hu
   rw [Addr.add_lit]
   exact At.cell (at_new w 9 [.string f]) (i := 0 + j) (by rw [Nat.zero_add]; exact hu)
 · intro u hu
   obtain rfl := List.mem_singleton.1 hu
   rfl
 intro v8 w8 o8 g8 _
 obtain ⟨ax2, cx2, rfl⟩ : ∃ ax2 cx2, v8 = .slice ax2 (fs.length + 1) cx2 := by
  rcases o8.2 with ⟨_, h0⟩ | ⟨g, cap, cur, e1, _⟩
  · omega
  · exact ⟨_, cap, e1⟩
 refine K ax2 cx2 w8 ?_ (fun W hU hW => up_grownBy (hU.trans HUx) g8 (fun k hk => Nat.le_trans hW (World.ownsRow.lt hR k hk).1))
 show w8.ownsRow N 9 1 (.slice ax2 (fs ++ [f]).length cx2) (fs ++ [f]).length ((fs ++ [f]).map Value.string)
 rw [List.length_append, List.map_append]
 exact o8
def alv (fs : List FD) (nm : ByteArray) : List ByteArray := (fs.filter fun f => lws f.n.data.toList == nm.data.toList).map (·.v)
theorem alv_yes {fs : List FD} {f : FD} {nm : ByteArray} (h : (lws f.n.data.toList == nm.data.toList) = true) : alv (fs ++ [f]) nm = alv fs nm ++ [f.v] := by simp [alv, List.filter_append, h]
theorem alv_no {fs : List FD} {f : FD} {nm : ByteArray} (h : (lws f.n.data.toList == nm.data.toList) = false) : alv (fs ++ [f]) nm = alv fs nm := by simp [alv, List.filter_append, h]
set_option maxRecDepth 100000 in
set_option maxHeartbeats 2000000 in
theorem Rall_walk (a : Option Addr) (fs : List FD) (c : Nat) (nm : ByteArray) (w : World) (h : FdL w a fs c) (hl : szs fs ≤ 1099511627776) :
 Calls Tryz.prog 82 #[.slice a fs.length c, .string nm] w fun e w' => (∃ a2 c2, e = .returned (.slice a2 (alv fs nm).length c2) ∧ Hd (StO w' w.heap.size a2 (alv fs nm) c2)) ∧ Up w w' := by
 have HF := Ho h
 have hcap := h.cap
 have hsl := szs_len fs
 have HM := Ho (fun (f : FD) (hf : f ∈ fs) => show f.n.size ≤ 1099511627776 from by have := szs_mem fs hf; omega)
 clear h
 go_enter Tryz.func82, Tryz.ntmps82
 go_wp2
 go_loopw [5, 6] (fun v5 v6 wr => ∃ i : Nat, v6 = .int .i64 (i : Int) ∧ i ≤ fs.length ∧ ∃ q a7 c7, v5 = .slice a7 q c7 ∧ q ≤ i ∧ Hd (StO wr w.heap.size a7 (alv (fs.take i) nm) c7 ∧ Up w wr ∧ (alv (fs.take i) nm).length = q)) (fun _ v6 _ => fs.length - (intOf v6).toNat)
 case atStart => exact ⟨0, rfl, Nat.zero_le _, 0, none, 0, rfl, Nat.le_refl _, Ho ⟨World.ownsRow_nil _ _ _ _, Up.refl _, rfl⟩⟩
 case round =>
  obtain ⟨i, rfl, hi, q, a7, c7, rfl, hqi, hU⟩ := hrel
  have HQ := Ho hU.o
  clear hU
  by_cases hil : i < fs.length
  · have hilz : (i : Int) < (fs.length : Int) := by omega
    obtain ⟨b, off, rfl, k1, k2⟩ := HF.o.cells i hil
    have HT := Ho (List.take_succ_eq_append_getElem hil)
    have hfn := HM.o _ (List.getElem_mem hil)
    obtain ⟨f, hf⟩ := ny (fs[i])
    rw [hf] at k1 k2 HT hfn
    have HK2 := Ho k2
    have HLn := Ho HQ.o.2.2
    have k3 := HQ.o.2.1.cell k1
    clear hf k1 k2
    go_wp2_with (with_reducible refine sI 42 ?_)
    show wpList _ _ _ _ _ _
    refine wpList_val7 (.pointer (some ⟨b, off + i * 2, none⟩)) rfl (exec_idxRf i hil rfl rfl rfl) ?_
    simp only [Act.put, pB, pC, pD]
    go_wp2_with fail
    refine (lowerL_walk f.n wr hfn).mono ?_
    rintro e w4 ⟨rfl, u5⟩
    have HU4 := Ho (HQ.o.2.1.trans u5)
    have HO4 := Ho (ow_up HQ.o.1 u5)
    clear u5 HQ k3
    have HNm0 : (⟨(lws f.n.data.toList).toArray⟩ : ByteArray).data.toList = lws f.n.data.toList := rfl
    generalize (⟨(lws f.n.data.toList).toArray⟩ : ByteArray) = nw at HNm0 ⊢
    have HNm := Ho HNm0
    clear HNm0
    dsimp only
    cases h3 : (nw.toList == nm.toList) with
    | true =>
     have HB := Ho (show (lws f.n.data.toList == nm.data.toList) = true by rw [← HNm.o, ← Go.Lib.toList_data, ← Go.Lib.toList_data]; exact h3)
     have HA := Ho (show alv (fs.take (i + 1)) nm = alv (fs.take i) nm ++ [f.v] by rw [HT.o, alv_yes HB.o])
     have c2 := HU4.o.cell HK2.o
     go_wp2_with (with_reducible refine sI 42 ?_)
     show wpList _ _ _ _ _ _
     refine wpList_val7 (.pointer (some ⟨b, off + i * 2, none⟩)) rfl (exec_idxRf i hil rfl rfl rfl) ?_
     simp only [Act.put, pB, pC, pD]
     go_wp2_with (with_reducible refine sA ?_)
     show wpList _ _ _ _ _ _
     refine wpList_appSt (w := w4) (N := w.heap.size) rfl _ _ rfl a7 c7 _ f.v HLn.o rfl rfl HO4.o HU4.o.size (by omega) ?_
     intro ax2 cx2 w7 o7 u7
     have HO7 := Ho (show StO w7 w.heap.size ax2 (alv (fs.take (i + 1)) nm) cx2 by rw [HA.o]; exact o7)
     have HU7 := Ho (u7 w HU4.o (Nat.le_refl _))
     have HL7 := Ho (show (alv (fs.take (i + 1)) nm).length = q + 1 by rw [HA.o, List.length_append, HLn.o]; rfl)
     clear o7 u7 c2
     simp only [Act.put, pB, pC, pD]
     go_wp2
     go_roundw
     all_goals first
      | exact ⟨i + 1, by go_num, by omega, q + 1, ax2, cx2, rfl, by omega, Ho ⟨HO7.o, HU7.o, HL7.o⟩⟩
      | (simp [intOf]; omega)
    | false =>
     have HB := Ho (show (lws f.n.data.toList == nm.data.toList) = false by rw [← HNm.o, ← Go.Lib.toList_data, ← Go.Lib.toList_data]; exact h3)
     have HA := Ho (show alv (fs.take (i + 1)) nm = alv (fs.take i) nm by rw [HT.o, alv_no HB.o])
     have HO7 := Ho (show StO w4 w.heap.size a7 (alv (fs.take (i + 1)) nm) c7 by rw [HA.o]; exact HO4.o)
     have HL7 := Ho (show (alv (fs.take (i + 1)) nm).length = q by rw [HA.o]; exact HLn.o)
     go_wp2
     go_roundw
     all_goals first
      | exact ⟨i + 1, by go_num, by omega, q, a7, c7, rfl, by omega, Ho ⟨HO7.o, HU4.o, HL7.o⟩⟩
      | (simp [intOf]; omega)
  · have hilz : ¬ (i : Int) < (fs.length : Int) := by omega
    have HO8 := Ho (show StO wr w.heap.size a7 (alv fs nm) c7 by
     have h1 := HQ.o.1
     rw [List.take_of_length_le (by omega)] at h1
     exact h1)
    have HL8 := Ho (show (alv fs nm).length = q by
     have h1 := HQ.o.2.2
     rw [List.take_of_length_le (by omega)] at h1
     exact h1)
    have HU8 := Ho HQ.o.2.1
    clear HQ
    go_wp2
    go_ret
    exact ⟨⟨a7, c7, by rw [HL8.o]; rfl, HO8⟩, HU8.o⟩
end Go.Proofs.YtkaoalcffgnfeaaGreatDoor
namespace Go.Proofs.YtkaoalcffgnfeaaGreatDoor
open Go.RowKit Go.Shelf TextNum
def hoN : ByteArray := ⟨#[104, 111, 115, 116]⟩
theorem ish_lws (f : FD) : ish f = (lws f.n.data.toList == hoN.data.toList) := by
 unfold ish kdf kdp
 generalize lws f.n.data.toList = x
 by_cases h1 : x = lws (kdT.getD 0 (⟨#[]⟩, 0)).1.data.toList
 · subst h1; decide +kernel
 · by_cases h2 : x = lws (kdT.getD 1 (⟨#[]⟩, 0)).1.data.toList
   · subst h2; decide +kernel
   · by_cases h3 : x = lws (kdT.getD 2 (⟨#[]⟩, 0)).1.data.toList
     · subst h3; decide +kernel
     · by_cases h4 : x = lws (kdT.getD 3 (⟨#[]⟩, 0)).1.data.toList
       · subst h4; decide +kernel
       · have e1 : lws (kdT.getD 0 (⟨#[]⟩, 0)).1.data.toList = hoN.data.toList := by decide +kernel
         have hf : kdT.find? (fun p => lws p.1.data.toList == x) = none := by
          rw [List.find?_eq_none]
          intro p hp
          rw [beq_iff_eq]
          intro e
          have hk : kdT = [kdT.getD 0 (⟨#[]⟩, 0), kdT.getD 1 (⟨#[]⟩, 0), kdT.getD 2 (⟨#[]⟩, 0), kdT.getD 3 (⟨#[]⟩, 0)] := rfl
          rw [hk] at hp
          simp only [List.mem_cons, List.not_mem_nil, or_false] at hp
          rcases hp with rfl | rfl | rfl | rfl
          · exact h1 e.symm
          · exact h2 e.symm
          · exact h3 e.symm
          · exact h4 e.symm
         rw [e1] at h1
         rw [hf]
         simp [h1]
theorem alv_ho (fs : List FD) : (alv fs hoN).length = fs.countP ish ∧ (alv fs hoN).all (fun v => hst v.data.toList) = fs.all okh := by
 induction fs with
 | nil => exact ⟨rfl, rfl⟩
 | cons f r ih =>
  have e : alv (f :: r) hoN = (if ish f = true then [f.v] else []) ++ alv r hoN := by
   unfold alv
   rw [List.filter_cons, ish_lws]
   split <;> simp_all
  rw [e, List.countP_cons, List.length_append, ih.1, List.all_append, ih.2, List.all_cons]
  unfold okh
  cases hf : ish f with
  | true => simp; omega
  | false => simp
theorem ckN_ho (fs : List FD) (mi : Int) : ckN (ckh fs mi) = if 1 < (alv fs hoN).length ∨ ((alv fs hoN).length = 0 ∧ mi = 1) then 144 else if (alv fs hoN).all (fun v => hst v.data.toList) = true then 0 else 144 := by
 obtain ⟨h1, h2⟩ := alv_ho fs
 rw [h1, h2]
 unfold ckh
 cases ha : fs.all okh with
 | false =>
  rw [if_pos rfl]
  split
  · rfl
  · rfl
 | true =>
  rw [if_neg (by simp)]
  split
  · rfl
  · rfl
theorem ca_any (ch : List UInt8) : ∀ l : List UInt8, Go.Lib.containsAny l ch = l.any ch.contains
 | [] => rfl
 | b :: l => by
  have ih := ca_any ch l
  unfold Go.Lib.containsAny at ih ⊢
  have hg := Go.Lib.indexAny_ge ch l
  rw [List.any_cons, ← ih, Go.Lib.indexAny]
  cases hb : ch.contains b with
  | true => simp
  | false =>
   rw [if_neg (by simp)]
   by_cases h : Go.Lib.indexAny l ch = -1
   · rw [h]; rfl
   · rw [if_neg (by simpa using h), decide_eq_true (show 0 ≤ Go.Lib.indexAny l ch + 1 by omega), decide_eq_true (show 0 ≤ Go.Lib.indexAny l ch by omega)]
     rfl
set_option maxRecDepth 100000 in
set_option maxHeartbeats 4000000 in
theorem Rhost_walk (a : Option Addr) (fs : List FD) (c : Nat) (mi : Int) (w : World) (h : FdL w a fs c) (hl : szs fs ≤ 1048576) :
 Calls Tryz.prog 37 #[.slice a fs.length c, .int .i64 mi] w fun e w' => e = .returned (.int .i64 (ckN (ckh fs mi))) ∧ Up w w' := by
 have HA := Ho (Rall_walk a fs c hoN w h (by omega))
 have HM := Ho (show ∀ v ∈ alv fs hoN, v.size ≤ 1048576 from fun v hv => by
  obtain ⟨f, hf, rfl⟩ := List.mem_map.1 hv
  have := szs_mem fs (List.mem_filter.1 hf).1
  omega)
 have hll : (alv fs hoN).length ≤ 1048576 := by
  have h1 := szs_len fs
  have h2 := List.countP_le_length (p := ish) (l := fs)
  rw [(alv_ho fs).1]
  omega
 obtain ⟨rv, hrv⟩ := ny (ckN (ckh fs mi))
 have HR := Ho (ckN_ho fs mi)
 rw [hrv] at HR ⊢
 clear hrv h
 obtain ⟨vs', hvs⟩ := ny (alv fs hoN)
 rw [hvs] at HA HM HR hll
 clear hvs
 obtain ⟨n, hn⟩ := ny vs'.length
 have HN := Ho hn
 rw [hn] at HA HR hll
 clear hn
 go_enter Tryz.func37, Tryz.ntmps37
 go_wp2_with fail
 refine HA.o.mono ?_
 rintro e w2 ⟨⟨a2, c2, rfl, hO⟩, h9⟩
 have HU2 := Ho h9
 have HS := Ho hO.o.stl
 have hcap := hO.o.stl.cap
 rw [HN.o] at hcap
 clear hO h9 HA
 dsimp only
 by_cases h1 : 1 < n
 · have h1z : (1 : Int) < (n : Int) := by omega
   have HE := Ho (show rv = 144 by rw [HR.o, if_pos (.inl h1)])
   go_wp2
   go_ret
   rw [HE.o]
   exact ⟨rfl, HU2.o⟩
 · have h1z : ¬ (1 : Int) < (n : Int) := by omega
   by_cases h0 : n = 0 ∧ mi = 1
   · have z1 : ((n : Int) == 0) = true := by rw [h0.1]; rfl
     have z2 : (mi == 1) = true := by rw [h0.2]; rfl
     have HE := Ho (show rv = 144 by rw [HR.o, if_pos (.inr h0)])
     clear h0
     go_wp2
     go_ret
     rw [HE.o]
     exact ⟨rfl, HU2.o⟩
   · have HR2 := Ho (show rv = if vs'.all (fun v => hst v.data.toList) = true then 0 else 144 by rw [HR.o, if_neg (fun h => h.elim h1 h0)])
     have hcond : ((n : Int) == 0) = false ∨ (((n : Int) == 0) = true ∧ (mi == 1) = false) := by
      by_cases hz : n = 0
      · right
        refine ⟨by rw [hz]; rfl, ?_⟩
        rw [beq_eq_false_iff_ne]
        exact fun e => h0 ⟨hz, e⟩
      · left
        rw [beq_eq_false_iff_ne]
        omega
     clear h0 HR
     rcases hcond with z1 | ⟨z1, z2⟩
     all_goals
      go_wp2
      go_loopw [6] (fun v6 wr => ∃ i : Nat, v6 = .int .i64 (i : Int) ∧ i ≤ n ∧ Hd (Up w2 wr ∧ (vs'.take i).all (fun v => hst v.data.toList) = true)) (fun v6 _ => n - (intOf v6).toNat)
      case atStart => exact ⟨0, rfl, Nat.zero_le _, Ho ⟨Up.refl _, rfl⟩⟩
      case round =>
       obtain ⟨i, rfl, hi, hU⟩ := hrel
       have HU := Ho hU.o
       clear hU
       by_cases hil : i < n
       · have hilz : (i : Int) < (n : Int) := by omega
         have hil2 : i < vs'.length := by rw [HN.o]; exact hil
         obtain ⟨b, off, rfl, k1⟩ := HS.o.cells i hil2
         have HT := Ho (show (vs'.take (i + 1)).all (fun v => hst v.data.toList) = ((vs'.take i).all (fun v => hst v.data.toList) && hst vs'[i].data.toList) by rw [List.take_succ_eq_append_getElem hil2, List.all_append]; simp)
         have hvz := HM.o _ (List.getElem_mem hil2)
         have HFl := Ho (show hst vs'[i].data.toList = false → rv = 144 from fun hb => by
          rw [HR2.o]
          have : vs'.all (fun v => hst v.data.toList) = false := List.all_eq_false.2 ⟨_, List.getElem_mem hil2, by rw [hb]; simp⟩
          rw [this]
          rfl)
         generalize vs'[i] = v at *
         have HK := Ho k1
         clear k1
         have c1 := HU.o.1.cell HK.o
         cases hem : v.toList.isEmpty with
         | true =>
          have hv0 : v.size = 0 := by
           rw [Go.Lib.toList_data] at hem
           rw [Go.Lib.size_eq, List.isEmpty_iff.1 hem]
           rfl
          have HY := Ho (show (vs'.take (i + 1)).all (fun v => hst v.data.toList) = true by
           rw [HT.o, HU.o.2]
           unfold hst
           rw [Go.Lib.toList_data] at hem
           rw [hem]
           rfl)
          have hv0z : ¬ (0 : Int) < (v.size : Int) := by omega
          go_wp2
          go_loopw [7] (fun v7 wr2 => ∃ j : Nat, v7 = .int .i64 (j : Int) ∧ j = 0 ∧ Hd (Up w2 wr2)) (fun _ _ => 0)
          case atStart => exact ⟨0, rfl, rfl, Ho HU.o.1⟩
          case round =>
           obtain ⟨j, rfl, rfl, hU3⟩ := hrel
           have HU3 := Ho hU3.o
           clear hU3 c1
           have c1 := HU3.o.cell HK.o
           go_wp2
           go_roundw
           all_goals first
            | exact ⟨i + 1, by go_num, by omega, Ho ⟨HU3.o, HY.o⟩⟩
            | (simp [intOf]; omega)
         | false =>
          have HV := Ho (show ∀ w, Calls Tryz.prog 34 #[.string v] w fun e w' => e = .returned (.bool (tgt v.data.toList)) ∧ Up w w' from fun w => Rvisible_walk v (by omega) w)
          have HH := Ho (show hst v.data.toList = (tgt v.data.toList && !v.data.toList.any nih.data.toList.contains) by
           unfold hst
           rw [← ca_any, ← Go.Lib.toList_data, hem]
           rfl)
          generalize hgt : tgt v.data.toList = bt at *
          clear hgt
          go_wp2_with fail
          refine (HV.o _).mono ?_
          rintro e w3 ⟨rfl, h9⟩
          have HU3 := Ho (show Up w2 w3 ∧ ((List.take i vs').all fun v => hst v.data.toList) = true from ⟨HU.o.1.trans h9, HU.o.2⟩)
          clear h9 HV HU c1
          dsimp only
          cases bt with
          | false =>
           have HE := Ho (show rv = 144 from HFl.o (by rw [HH.o]; rfl))
           go_wp2
           go_ret
           rw [HE.o]
           exact ⟨rfl, HU2.o.trans HU3.o.1⟩
          | true =>
           have HC := Ho (show v.size = v.data.toList.length from Go.Lib.size_eq v)
           have HG := Ho (show ∀ w c, Calls Tryz.prog 80 #[.string nih, vb c] w fun e w' => e = .returned (.bool (nih.data.toList.contains c)) ∧ w' = w from fun w c => Ramong_walk nih c (by decide) w)
           go_wp2
           go_loopw [7] (fun v7 wr => ∃ j : Nat, v7 = .int .i64 (j : Int) ∧ j ≤ v.size ∧ Hd (Up w2 wr ∧ ∀ x ∈ v.data.toList.take j, nih.data.toList.contains x = false)) (fun v7 _ => v.size - (intOf v7).toNat)
           case atStart => exact ⟨0, rfl, Nat.zero_le _, Ho ⟨HU3.o.1, by simp⟩⟩
           case round =>
            obtain ⟨j, rfl, hj, hU4⟩ := hrel
            have HU4 := Ho hU4.o
            clear hU4
            have c1 := HU4.o.1.cell HK.o
            by_cases hjl : j < v.size
            · have hjlz : (j : Int) < (v.size : Int) := by omega
              have hg := sget' v j hjl
              have hjj : j < v.data.toList.length := by rw [← HC.o]; exact hjl
              have HQ := Ho (List.take_succ_eq_append_getElem hjj)
              have HMm := Ho (List.getElem_mem hjj)
              generalize v.data.toList[j]'hjj = x at *
              clear hjj
              go_wp2_with fail
              refine (HG.o _ x).mono ?_
              rintro e w4 ⟨rfl, rfl⟩
              dsimp only
              cases hx : nih.data.toList.contains x with
              | true =>
               have HE := Ho (show rv = 144 from HFl.o (by
                rw [HH.o]
                have : v.data.toList.any nih.data.toList.contains = true := List.any_eq_true.2 ⟨x, HMm.o, hx⟩
                rw [this]
                rfl))
               go_wp2
               go_ret
               rw [HE.o]
               exact ⟨rfl, HU2.o.trans HU4.o.1⟩
              | false =>
               have HN2 := Ho (show ∀ y ∈ v.data.toList.take (j + 1), nih.data.toList.contains y = false by
                rw [HQ.o]
                intro y hy
                rw [List.mem_append, List.mem_singleton] at hy
                rcases hy with h | h
                · exact HU4.o.2 y h
                · rw [h]; exact hx)
               go_wp2
               go_roundw
               all_goals first
                | exact ⟨j + 1, by go_num, by omega, Ho ⟨HU4.o.1, HN2.o⟩⟩
                | (simp [intOf]; omega)
            · have hjlz : ¬ (j : Int) < (v.size : Int) := by omega
              have HY := Ho (show (vs'.take (i + 1)).all (fun v => hst v.data.toList) = true by
               rw [HT.o, HU3.o.2, HH.o]
               have h1 := HU4.o.2
               rw [List.take_of_length_le (by rw [← HC.o]; omega)] at h1
               have : v.data.toList.any nih.data.toList.contains = false := by
                rw [List.any_eq_false]
                intro x hx
                rw [h1 x hx]
                simp
               rw [this]
               rfl)
              go_wp2
              go_roundw
              all_goals first
               | exact ⟨i + 1, by go_num, by omega, Ho ⟨HU4.o.1, HY.o⟩⟩
               | (simp [intOf]; omega)
       · have hilz : ¬ (i : Int) < (n : Int) := by omega
         have HE := Ho (show rv = 0 by
          have h1 := HU.o.2
          rw [List.take_of_length_le (by rw [HN.o]; omega)] at h1
          rw [HR2.o, if_pos h1])
         go_wp2
         go_ret
         rw [HE.o]
         exact ⟨rfl, HU2.o.trans HU.o.1⟩
end Go.Proofs.YtkaoalcffgnfeaaGreatDoor
namespace Go.Proofs.YtkaoalcffgnfeaaGreatDoor
open Go.RowKit Go.Shelf TextNum
def RfrR (w' : World) (e : Ending) : Er (List UInt8) → Prop
 | .error k => e = .returned (.tuple #[.slice none 0 0, .int .i64 (nums k)])
 | .ok l => ∃ a c, e = .returned (.tuple #[.slice a l.length c, .int .i64 0]) ∧ Hd (Sb w' (.slice a l.length c) l)
def erM (l : List UInt8) : Option Nat → Er (List UInt8)
 | some k => .error k
 | none => .ok l
theorem nums_ne {k : Nat} (h : k < 12) : (nums k == 0) = false := by
 have : ∀ k : Nat, k < 12 → (nums k == 0) = false := by decide +kernel
 exact this k h
theorem mnr_eq (mi : Int) : mnr mi = (mi == 0 || mi == 1) := by
 unfold mnr
 first | rfl | (rw [Bool.or_comm]) | simp
theorem tld_neg (fs : List FD) : tld fs (-1) = pfs fs := by unfold tld; rw [if_neg (by decide)]
theorem tld_nat (fs : List FD) (n : Nat) : tld fs (n : Int) = pfs fs ++ [lnf n] := by unfold tld; rw [if_pos (by omega)]; rfl
set_option maxRecDepth 100000 in
set_option maxHeartbeats 8000000 in
theorem RFormatRequest_walk (m t : ByteArray) (mi : Int) (a : Option Addr) (fs : List FD) (c : Nat) (ab : Option Addr) (nb cb' : Nat) (bd : List UInt8) (cl : Bool) (w : World) (h : FdL w a fs c) (hb : Sb w (.slice ab nb cb') bd) (hMt : w.rangeAt 1 0 mtC) (hm : m.size ≤ 1099511627776) (ht : t.size ≤ 1099511627776)
 (hm0 : -9223372036854775808 ≤ mi) (hm1 : mi ≤ 9223372036854775807) (hl : szs fs ≤ 1099511627000) (hnb : nb ≤ 1099511627776) :
 Calls Tryz.prog 10 #[.agg #[.string m, .string t, .int .i64 mi, .slice a fs.length c, .slice ab nb cb', .bool cl]] w fun e w' => RfrR w' e (frQ m t mi fs bd) ∧ Up w w' := by
 have HF := Ho h
 have HMt := Ho hMt
 have HB := Ho hb
 have hcap := h.cap
 obtain ⟨hbn, hbc, hbm⟩ := hb.len
 unfold maxLen at hbm
 have HBn := Ho hbn
 clear h hMt hb
 obtain ⟨rv, hrv⟩ := ny (frQ m t mi fs bd)
 have HZf := szs_frF fs nb hnb
 have hsl := szs_len fs
 obtain ⟨F, hF⟩ := ny (frF fs nb)
 rw [hF] at HZf
 have HFr := Ho hF
 obtain ⟨ck, hck⟩ := ny (ckq m t mi F nb)
 have HRv := Ho (show rv = erM (prt (frS m t mi) F bd) ck by
  rw [← hrv, ← hck]
  unfold frQ erM
  rw [← hbn, hF]
  rfl)
 rw [hrv]
 clear hrv hF hbn
 unfold ckq at hck
 have HC := Ho hck
 clear hck
 have hvl := vtx_len mi hm0 hm1
 obtain ⟨SZ, hSZ⟩ := ny (m.size + 1 + t.size + 1 + (vtx mi).length)
 have HSz := Ho hSZ
 have HVz0 : (⟨(Go.Lib.itoa mi).toArray⟩ : ByteArray).size = (Go.Lib.itoa mi).length := by simp [ByteArray.size]
 have HVx := Ho (show vs (Go.Lib.itoa mi) = .string ⟨(Go.Lib.itoa mi).toArray⟩ from rfl)
 have HVd0 : (⟨(Go.Lib.itoa mi).toArray⟩ : ByteArray).data.toList = Go.Lib.itoa mi := rfl
 have hvz3 : (vtx mi).length = 7 + (Go.Lib.itoa mi).length := by unfold vtx; rw [List.length_append]; rfl
 generalize (⟨(Go.Lib.itoa mi).toArray⟩ : ByteArray) = vt at HVx HVz0 HVd0
 have hvz2 : vt.size ≤ 64 := by omega
 have HVz := Ho hvz2
 have HSd := Ho (show (m ++ (⟨#[32]⟩ : ByteArray) ++ t ++ (⟨#[32, 72, 84, 84, 80, 47, 49, 46]⟩ : ByteArray) ++ vt).data.toList = frS m t mi by
  rw [bat_app, bat_app, bat_app, bat_app]
  unfold frS vtx
  rw [HVd0]
  simp [List.append_assoc])
 have HSs := Ho (show (m ++ (⟨#[32]⟩ : ByteArray) ++ t ++ (⟨#[32, 72, 84, 84, 80, 47, 49, 46]⟩ : ByteArray) ++ vt).size = SZ by
  rw [Go.Lib.size_eq, HSd.o, ← hSZ]
  unfold frS
  simp only [List.length_append, List.length_cons, List.length_nil]
  rw [← Go.Lib.size_eq, ← Go.Lib.size_eq])
 have hl1 : ¬ 9223372036854775807 < m.size + 1 := by omega
 have hl2 : ¬ 9223372036854775807 < m.size + 1 + t.size := by omega
 have hl3 : ¬ 9223372036854775807 < m.size + 1 + t.size + 8 := by omega
 have hl4 : ¬ 9223372036854775807 < m.size + 1 + t.size + 8 + vt.size := by omega
 clear HVz0 HVd0 hvz3 hSZ
 have HHb := Ho (fun a2 c2 w' (h : FdL w' a2 F c2) => RheadBytes_walk a2 F c2 w' h (by omega))
 have HCf := Ho (fun a2 c2 w' (h : FdL w' a2 F c2) => Rchecked_walk a2 F c2 w' h (by omega))
 have HHo := Ho (fun a2 c2 w' (h : FdL w' a2 F c2) h2 => Rhost_walk a2 F c2 mi w' h h2)
 have HLd := Ho (fun (st : ByteArray) a2 c2 w' (h : FdL w' a2 F c2) (h2 : Sb w' (.slice ab nb cb') bd) h3 h4 h5 => Rlaid_walk st a2 F c2 _ bd w' h h2 h3 h4 h5)
 obtain ⟨nF, hnF⟩ := ny F.length
 have HNF := Ho hnF
 obtain ⟨z, hz⟩ := ny (szs F)
 rw [hnF] at HHb HCf HHo HLd
 rw [hz] at HHb HHo HLd HC HZf
 clear hnF hz
 have HA0 := Ho (at_new w 44 [.string m, .string t, .int .i64 mi, .slice a fs.length c, .slice ab nb cb', .bool cl])
 have HU0 := Ho ((Up.refl w).alloc (.cells [.string m, .string t, .int .i64 mi, .slice a fs.length c, .slice ab nb cb', .bool cl].toArray 44))
 have HT0 := Ho (tld_neg fs)
 have HT1 := Ho (tld_nat fs nb)
 have HF1 := HFr.o
 unfold frF at HF1
 go_enter Tryz.func10, Tryz.ntmps10
 go_wp2_with (with_reducible refine sL 23 ?_)
 show wpList _ _ _ _ _ _
 obtain ⟨w1, hw1⟩ := ny (w.alloc (.cells [.string m, .string t, .int .i64 mi, .slice a fs.length c, .slice ab nb cb', .bool cl].toArray 44))
 rw [hw1] at HA0 HU0
 change wpList _ _ _ _ _ (w.alloc (.cells [.string m, .string t, .int .i64 mi, .slice a fs.length c, .slice ab nb cb', .bool cl].toArray 44))
 rw [hw1]
 clear hw1
 have c4 := HA0.o.cell (i := 4) rfl
 by_cases hb0 : nb = 0
 · have hb0z : ((nb : Int) == 0) = true := by rw [hb0]; rfl
   have HT := Ho (show tld fs (-1) = F by rw [HT0.o, ← HF1, if_neg (by omega)])
   have Hb0 := Ho hb0
   clear HT0 HT1 HF1 hb0
   have c3 := HA0.o.cell (i := 3) rfl
   go_wp2_with fail
   refine (Rprinted_walk a fs c (-1) w1 (HF.o.up HU0.o) (by omega) (by omega) (by omega)).mono ?_
   rintro e w2 ⟨⟨a2, c2, rfl, hO2⟩, h9⟩
   have HU2 := Ho (HU0.o.trans h9)
   have HA2 := Ho (HA0.o.up h9)
   have hO3 := hO2.o.fdl
   rw [HT.o] at hO3 ⊢
   have HF2 := Ho hO3
   have hcap2 := hO3.cap
   rw [HNF.o] at hcap2 ⊢
   clear h9 hO2 hO3 c3 c4 HT
   dsimp only
   go_wp2
   refine wp_region_held_drew (S := fun w2 => At w2 w.heap.size 44 [.string m, .string t, .int .i64 mi, .slice a fs.length c, .slice ab nb cb', .bool cl] ∧ Up w w2) (by kernel_rfl) ⟨HA2.o.up (Up.refl _).drew, HU2.o.drew⟩ (fun hS => ?_)
   refine tN 0 (some 17) (.fieldAddr 44 (.tmp 1) 0) 0 (.pointer (some ⟨w.heap.size, 0, none⟩)) hS ?_
   simp only [Act.put, pB, pC, pD]
   refine tK 1 (some 18) (.load 9 (.tmp 17)) 9 (.string m) hS ?_ ?_
   · intro _ _ w5 hSw
     have h0 := hSw.1.cell (i := 0) rfl
     clear hSw hS
     go_simp
   simp only [pA, pB, pC, pD]
   refine tN 2 (some 19) (.binOp .add 9 (.tmp 18) (.const (.string { data := #[32] })) 9) 9 (.string (m ++ (⟨#[32]⟩ : ByteArray))) hS ?_
   simp only [pA, pB, pC, pD]
   refine tN 3 (some 20) (.fieldAddr 44 (.tmp 1) 1) 0 (.pointer (some ⟨w.heap.size, 1, none⟩)) hS ?_
   simp only [pA, pB, pC, pD]
   refine tK 4 (some 21) (.load 9 (.tmp 20)) 9 (.string t) hS ?_ ?_
   · intro _ _ w5 hSw
     have h0 := hSw.1.cell (i := 1) rfl
     clear hSw hS
     go_simp
   simp only [pA, pB, pC, pD]
   refine tN 5 (some 22) (.binOp .add 9 (.tmp 19) (.tmp 21) 9) 9 (.string (m ++ (⟨#[32]⟩ : ByteArray) ++ t)) hS ?_
   simp only [pA, pB, pC, pD]
   refine tN 6 (some 23) (.binOp .add 9 (.tmp 22) (.const (.string { data := #[32, 72, 84, 84, 80, 47, 49, 46] })) 9) 9 (.string (m ++ (⟨#[32]⟩ : ByteArray) ++ t ++ (⟨#[32, 72, 84, 84, 80, 47, 49, 46]⟩ : ByteArray))) hS ?_
   simp only [pA, pB, pC, pD]
   refine tN 7 (some 24) (.fieldAddr 44 (.tmp 1) 2) 0 (.pointer (some ⟨w.heap.size, 2, none⟩)) hS ?_
   simp only [pA, pB, pC, pD]
   refine tK 8 (some 25) (.load 3 (.tmp 24)) 3 (.int .i64 mi) hS ?_ ?_
   · intro _ _ w5 hSw
     have h0 := hSw.1.cell (i := 2) rfl
     clear hSw hS
     go_simp
   simp only [pA, pB, pC, pD]
   refine rD 9 (some 26) (.call ⟨.value (.func 31), #[.tmp 25], #[2]⟩) 9 fun _ _ K hK => ?_
   rw [if_pos (by kernel_rfl)]
   go_simp
   refine (RFormatNumber_walk mi hm0 hm1 w2.drew).mono ?_
   rintro e w3 ⟨rfl, h9⟩
   have HU3 := Ho (HU2.o.drew.trans h9)
   have HA3 := Ho ((HA2.o.up (Up.refl _).drew).up h9)
   have HF3 := Ho ((HF2.o.up (Up.refl _).drew).up h9)
   clear h9 hS HU2 HA2 HF2
   rw [HVx.o]
   dsimp only
   refine hK.out _ _ ⟨HA3.o, HU3.o⟩ (fun hS => ?_)
   clear hK K
   refine tK 10 (some 27) (.binOp .add 9 (.tmp 23) (.tmp 26) 9) 9 (.string (m ++ (⟨#[32]⟩ : ByteArray) ++ t ++ (⟨#[32, 72, 84, 84, 80, 47, 49, 46]⟩ : ByteArray) ++ vt)) hS ?_ ?_
   · intro _ _ w5 hSw
     clear hSw hS
     have hvz := HVz.o
     go_simp
   simp only [Act.put, pB, pC, pD]
   refine tN 11 (some 6) (.assign (.tmp 27)) 9 (.string (m ++ (⟨#[32]⟩ : ByteArray) ++ t ++ (⟨#[32, 72, 84, 84, 80, 47, 49, 46]⟩ : ByteArray) ++ vt)) hS ?_
   simp only [pA, pB, pC, pD]
   clear hS
   refine wpAnyH_done (by kernel_rfl) ?_ _
   generalize m ++ (⟨#[32]⟩ : ByteArray) ++ t ++ (⟨#[32, 72, 84, 84, 80, 47, 49, 46]⟩ : ByteArray) ++ vt = st at HSd HSs ⊢
   by_cases hs1 : 8000 < SZ
   · have hs1z : (8000 : Int) < (st.size : Int) := by rw [HSs.o]; omega
     have HE := Ho (show rv = .error 9 by rw [HRv.o, ← HC.o, if_pos (by have := HSz.o; omega)]; rfl)
     go_wp2
     go_ret2
     rw [HE.o]
     exact ⟨rfl, HU3.o⟩
   · have hs1z : ¬ (8000 : Int) < (st.size : Int) := by rw [HSs.o]; omega
     rw [if_neg (by have := HSz.o; omega)] at HC
     go_wp2_with fail
     refine (HHb.o _ _ _ HF3.o).mono ?_
     rintro e w4 ⟨rfl, h9⟩
     have HU4 := Ho (HU3.o.trans h9)
     have HA4 := Ho (HA3.o.up h9)
     have HF4 := Ho (HF3.o.up h9)
     clear h9
     dsimp only
     by_cases h2 : 16384 < z
     · have h2z : (16384 : Int) < (z : Int) := by omega
       have HE := Ho (show rv = .error 1 by rw [HRv.o, ← HC.o, if_pos h2]; rfl)
       go_wp2
       go_ret2
       rw [HE.o]
       exact ⟨rfl, HU4.o⟩
     · have h2z : ¬ (16384 : Int) < (z : Int) := by omega
       rw [if_neg h2] at HC
       have HHo := Ho (fun a2 c2 w' h => HHo.o a2 c2 w' h (by omega))
       have c0 := HA4.o.cell (i := 0) rfl
       go_wp2_with fail
       refine (Rtoken_walk m hm w4).mono ?_
       rintro e w5 ⟨rfl, h9⟩
       have HU5 := Ho (HU4.o.trans h9)
       have HA5 := Ho (HA4.o.up h9)
       have HF5 := Ho (HF4.o.up h9)
       clear h9
       dsimp only
       cases htk : tok m.data.toList with
       | false =>
        have HE := Ho (show rv = .error 3 by rw [HRv.o, ← HC.o, if_pos htk]; rfl)
        go_wp2
        go_ret2
        rw [HE.o]
        exact ⟨rfl, HU5.o⟩
       | true =>
        rw [if_neg (by rw [htk]; simp)] at HC
        clear htk
        clear c0
        have c1 := HA5.o.cell (i := 1) rfl
        go_wp2_with fail
        refine (Rvisible_walk t ht w5).mono ?_
        rintro e w6 ⟨rfl, h9⟩
        have HU6 := Ho (HU5.o.trans h9)
        have HA6 := Ho (HA5.o.up h9)
        have HF6 := Ho (HF5.o.up h9)
        clear h9
        dsimp only
        cases htg : tgt t.data.toList with
        | false =>
         have HE := Ho (show rv = .error 3 by rw [HRv.o, ← HC.o, if_pos htg]; rfl)
         go_wp2
         go_ret2
         rw [HE.o]
         exact ⟨rfl, HU6.o⟩
        | true =>
         rw [if_neg (by rw [htg]; simp)] at HC
         clear htg c1
         have c0 := HA6.o.cell (i := 0) rfl
         go_wp2_with fail
         refine (Rknown_walk m w6 (range_up HMt.o HU6.o)).mono ?_
         rintro e w7 ⟨rfl, h9⟩
         obtain rfl := h9.symm
         clear h9
         dsimp only
         cases hmt : mtk m with
         | false =>
          have HE := Ho (show rv = .error 10 by rw [HRv.o, ← HC.o, if_pos hmt]; rfl)
          go_wp2
          go_ret2
          rw [HE.o]
          exact ⟨rfl, HU6.o⟩
         | true =>
          rw [if_neg (by rw [hmt]; simp)] at HC
          clear hmt c0
          have c2 := HA6.o.cell (i := 2) rfl
          have HM := Ho (show mnr mi = (mi == 0 || mi == 1) from mnr_eq mi)
          by_cases hm2 : mi = 0
          · subst hm2
            rw [if_neg (show ¬ mnr 0 = false by decide)] at HC
            go_wp2_with fail
            refine (HCf.o _ _ _ HF6.o).mono ?_
            rintro e w8 ⟨rfl, h9⟩
            have HU8 := Ho (HU6.o.trans h9)
            have HA8 := Ho (HA6.o.up h9)
            have HF8 := Ho (HF6.o.up h9)
            clear h9
            dsimp only
            clear c2
            cases hcf : ckf F with
            | some k =>
             have hkz := nums_ne (ckf_lt hcf)
             have HE := Ho (show rv = .error k by rw [HRv.o, ← HC.o, hcf]; rfl)
             clear hcf
             rw [show ckN (some k) = nums k from rfl]
             go_wp2
             go_ret2
             rw [HE.o]
             exact ⟨rfl, HU8.o⟩
            | none =>
             rw [hcf] at HC
             rw [show ckN none = 0 from rfl]
             clear hcf
             have c2 := HA8.o.cell (i := 2) rfl
             go_wp2_with fail
             refine (HHo.o _ _ _ HF8.o).mono ?_
             rintro e w9 ⟨rfl, h9⟩
             have HU9 := Ho (HU8.o.trans h9)
             have HA9 := Ho (HA8.o.up h9)
             have HF9 := Ho (HF8.o.up h9)
             clear h9
             dsimp only
             cases hch : ckh F 0 with
             | some k =>
              have hkz := nums_ne (ckh_lt hch)
              have HE := Ho (show rv = .error k by rw [HRv.o, ← HC.o, hch]; rfl)
              clear hch
              rw [show ckN (some k) = nums k from rfl]
              go_wp2
              go_ret2
              rw [HE.o]
              exact ⟨rfl, HU9.o⟩
             | none =>
              rw [hch] at HC
              rw [show ckN none = 0 from rfl]
              clear hch c2
              have c4 := HA9.o.cell (i := 4) rfl
              by_cases hbl : 1048576 < nb
              · exact absurd hbl (by have := Hb0.o; omega)
              · have hblz : ¬ (1048576 : Int) < (nb : Int) := by omega
                have hbl2 : bd.length ≤ 1048576 := by have := HBn.o; omega
                go_wp2_with fail
                refine (HLd.o st _ _ _ HF9.o (HB.o.up HU9.o) (by rw [HSs.o]; omega) (by omega) (by omega)).mono ?_
                rintro e w10 ⟨⟨a8, c8, rfl, hO8⟩, h9⟩
                have HU10 := Ho (HU9.o.trans h9)
                have HO8 := Ho hO8.o
                clear h9 hO8
                rw [HSd.o] at HO8 ⊢
                dsimp only
                have HE := Ho (show rv = .ok (prt (frS m t 0) F bd) by rw [HRv.o, ← HC.o, if_neg hbl]; rfl)
                go_wp2
                go_ret2
                rw [HE.o]
                exact ⟨⟨a8, c8, rfl, Ho HO8.o⟩, HU10.o⟩
          · by_cases hm3 : mi = 1
            · subst hm3
              rw [if_neg (show ¬ mnr 1 = false by decide)] at HC
              go_wp2_with fail
              refine (HCf.o _ _ _ HF6.o).mono ?_
              rintro e w8 ⟨rfl, h9⟩
              have HU8 := Ho (HU6.o.trans h9)
              have HA8 := Ho (HA6.o.up h9)
              have HF8 := Ho (HF6.o.up h9)
              clear h9
              dsimp only
              clear c2
              cases hcf : ckf F with
              | some k =>
               have hkz := nums_ne (ckf_lt hcf)
               have HE := Ho (show rv = .error k by rw [HRv.o, ← HC.o, hcf]; rfl)
               clear hcf
               rw [show ckN (some k) = nums k from rfl]
               go_wp2
               go_ret2
               rw [HE.o]
               exact ⟨rfl, HU8.o⟩
              | none =>
               rw [hcf] at HC
               rw [show ckN none = 0 from rfl]
               clear hcf
               have c2 := HA8.o.cell (i := 2) rfl
               go_wp2_with fail
               refine (HHo.o _ _ _ HF8.o).mono ?_
               rintro e w9 ⟨rfl, h9⟩
               have HU9 := Ho (HU8.o.trans h9)
               have HA9 := Ho (HA8.o.up h9)
               have HF9 := Ho (HF8.o.up h9)
               clear h9
               dsimp only
               cases hch : ckh F 1 with
               | some k =>
                have hkz := nums_ne (ckh_lt hch)
                have HE := Ho (show rv = .error k by rw [HRv.o, ← HC.o, hch]; rfl)
                clear hch
                rw [show ckN (some k) = nums k from rfl]
                go_wp2
                go_ret2
                rw [HE.o]
                exact ⟨rfl, HU9.o⟩
               | none =>
                rw [hch] at HC
                rw [show ckN none = 0 from rfl]
                clear hch c2
                have c4 := HA9.o.cell (i := 4) rfl
                by_cases hbl : 1048576 < nb
                · exact absurd hbl (by have := Hb0.o; omega)
                · have hblz : ¬ (1048576 : Int) < (nb : Int) := by omega
                  have hbl2 : bd.length ≤ 1048576 := by have := HBn.o; omega
                  go_wp2_with fail
                  refine (HLd.o st _ _ _ HF9.o (HB.o.up HU9.o) (by rw [HSs.o]; omega) (by omega) (by omega)).mono ?_
                  rintro e w10 ⟨⟨a8, c8, rfl, hO8⟩, h9⟩
                  have HU10 := Ho (HU9.o.trans h9)
                  have HO8 := Ho hO8.o
                  clear h9 hO8
                  rw [HSd.o] at HO8 ⊢
                  dsimp only
                  have HE := Ho (show rv = .ok (prt (frS m t 1) F bd) by rw [HRv.o, ← HC.o, if_neg hbl]; rfl)
                  go_wp2
                  go_ret2
                  rw [HE.o]
                  exact ⟨⟨a8, c8, rfl, Ho HO8.o⟩, HU10.o⟩
            · have q0 : (mi == 0) = false := beq_eq_false_iff_ne.2 hm2
              have q1 : (mi == 1) = false := beq_eq_false_iff_ne.2 hm3
              have q2 : (mi != 0) = true := by rw [bne, q0]; rfl
              have q3 : (mi != 1) = true := by rw [bne, q1]; rfl
              have HMf := Ho (show mnr mi = false by rw [HM.o, q0, q1]; rfl)
              have HE := Ho (show rv = .error 4 by rw [HRv.o, ← HC.o, if_pos HMf.o]; rfl)
              go_wp2
              go_ret2
              rw [HE.o]
              exact ⟨rfl, HU6.o⟩
 · have hb0z : ((nb : Int) == 0) = false := by rw [beq_eq_false_iff_ne]; omega
   have HT := Ho (show tld fs (nb : Int) = F by rw [HT1.o, ← HF1, if_pos (by omega)])
   clear HT0 HT1 HF1
   have c3 := HA0.o.cell (i := 3) rfl
   go_wp2_with fail
   refine (Rprinted_walk a fs c (nb : Int) w1 (HF.o.up HU0.o) (by omega) (by omega) (by omega)).mono ?_
   rintro e w2 ⟨⟨a2, c2, rfl, hO2⟩, h9⟩
   have HU2 := Ho (HU0.o.trans h9)
   have HA2 := Ho (HA0.o.up h9)
   have hO3 := hO2.o.fdl
   rw [HT.o] at hO3 ⊢
   have HF2 := Ho hO3
   have hcap2 := hO3.cap
   rw [HNF.o] at hcap2 ⊢
   clear h9 hO2 hO3 c3 c4 HT
   dsimp only
   go_wp2
   refine wp_region_held_drew (S := fun w2 => At w2 w.heap.size 44 [.string m, .string t, .int .i64 mi, .slice a fs.length c, .slice ab nb cb', .bool cl] ∧ Up w w2) (by kernel_rfl) ⟨HA2.o.up (Up.refl _).drew, HU2.o.drew⟩ (fun hS => ?_)
   refine tN 0 (some 17) (.fieldAddr 44 (.tmp 1) 0) 0 (.pointer (some ⟨w.heap.size, 0, none⟩)) hS ?_
   simp only [pA, pB, pC, pD]
   refine tK 1 (some 18) (.load 9 (.tmp 17)) 9 (.string m) hS ?_ ?_
   · intro _ _ w5 hSw
     have h0 := hSw.1.cell (i := 0) rfl
     clear hSw hS
     go_simp
   simp only [pA, pB, pC, pD]
   refine tN 2 (some 19) (.binOp .add 9 (.tmp 18) (.const (.string { data := #[32] })) 9) 9 (.string (m ++ (⟨#[32]⟩ : ByteArray))) hS ?_
   simp only [pA, pB, pC, pD]
   refine tN 3 (some 20) (.fieldAddr 44 (.tmp 1) 1) 0 (.pointer (some ⟨w.heap.size, 1, none⟩)) hS ?_
   simp only [pA, pB, pC, pD]
   refine tK 4 (some 21) (.load 9 (.tmp 20)) 9 (.string t) hS ?_ ?_
   · intro _ _ w5 hSw
     have h0 := hSw.1.cell (i := 1) rfl
     clear hSw hS
     go_simp
   simp only [pA, pB, pC, pD]
   refine tN 5 (some 22) (.binOp .add 9 (.tmp 19) (.tmp 21) 9) 9 (.string (m ++ (⟨#[32]⟩ : ByteArray) ++ t)) hS ?_
   simp only [pA, pB, pC, pD]
   refine tN 6 (some 23) (.binOp .add 9 (.tmp 22) (.const (.string { data := #[32, 72, 84, 84, 80, 47, 49, 46] })) 9) 9 (.string (m ++ (⟨#[32]⟩ : ByteArray) ++ t ++ (⟨#[32, 72, 84, 84, 80, 47, 49, 46]⟩ : ByteArray))) hS ?_
   simp only [pA, pB, pC, pD]
   refine tN 7 (some 24) (.fieldAddr 44 (.tmp 1) 2) 0 (.pointer (some ⟨w.heap.size, 2, none⟩)) hS ?_
   simp only [pA, pB, pC, pD]
   refine tK 8 (some 25) (.load 3 (.tmp 24)) 3 (.int .i64 mi) hS ?_ ?_
   · intro _ _ w5 hSw
     have h0 := hSw.1.cell (i := 2) rfl
     clear hSw hS
     go_simp
   simp only [pA, pB, pC, pD]
   refine rD 9 (some 26) (.call ⟨.value (.func 31), #[.tmp 25], #[2]⟩) 9 fun _ _ K hK => ?_
   rw [if_pos (by kernel_rfl)]
   go_simp
   refine (RFormatNumber_walk mi hm0 hm1 w2.drew).mono ?_
   rintro e w3 ⟨rfl, h9⟩
   have HU3 := Ho (HU2.o.drew.trans h9)
   have HA3 := Ho ((HA2.o.up (Up.refl _).drew).up h9)
   have HF3 := Ho ((HF2.o.up (Up.refl _).drew).up h9)
   clear h9 hS HU2 HA2 HF2
   rw [HVx.o]
   dsimp only
   refine hK.out _ _ ⟨HA3.o, HU3.o⟩ (fun hS => ?_)
   clear hK K
   refine tK 10 (some 27) (.binOp .add 9 (.tmp 23) (.tmp 26) 9) 9 (.string (m ++ (⟨#[32]⟩ : ByteArray) ++ t ++ (⟨#[32, 72, 84, 84, 80, 47, 49, 46]⟩ : ByteArray) ++ vt)) hS ?_ ?_
   · intro _ _ w5 hSw
     clear hSw hS
     have hvz := HVz.o
     go_simp
   simp only [Act.put, pB, pC, pD]
   refine tN 11 (some 6) (.assign (.tmp 27)) 9 (.string (m ++ (⟨#[32]⟩ : ByteArray) ++ t ++ (⟨#[32, 72, 84, 84, 80, 47, 49, 46]⟩ : ByteArray) ++ vt)) hS ?_
   simp only [pA, pB, pC, pD]
   clear hS
   refine wpAnyH_done (by kernel_rfl) ?_ _
   generalize m ++ (⟨#[32]⟩ : ByteArray) ++ t ++ (⟨#[32, 72, 84, 84, 80, 47, 49, 46]⟩ : ByteArray) ++ vt = st at HSd HSs ⊢
   by_cases hs1 : 8000 < SZ
   · have hs1z : (8000 : Int) < (st.size : Int) := by rw [HSs.o]; omega
     have HE := Ho (show rv = .error 9 by rw [HRv.o, ← HC.o, if_pos (by have := HSz.o; omega)]; rfl)
     go_wp2
     go_ret2
     rw [HE.o]
     exact ⟨rfl, HU3.o⟩
   · have hs1z : ¬ (8000 : Int) < (st.size : Int) := by rw [HSs.o]; omega
     rw [if_neg (by have := HSz.o; omega)] at HC
     go_wp2_with fail
     refine (HHb.o _ _ _ HF3.o).mono ?_
     rintro e w4 ⟨rfl, h9⟩
     have HU4 := Ho (HU3.o.trans h9)
     have HA4 := Ho (HA3.o.up h9)
     have HF4 := Ho (HF3.o.up h9)
     clear h9
     dsimp only
     by_cases h2 : 16384 < z
     · have h2z : (16384 : Int) < (z : Int) := by omega
       have HE := Ho (show rv = .error 1 by rw [HRv.o, ← HC.o, if_pos h2]; rfl)
       go_wp2
       go_ret2
       rw [HE.o]
       exact ⟨rfl, HU4.o⟩
     · have h2z : ¬ (16384 : Int) < (z : Int) := by omega
       rw [if_neg h2] at HC
       have HHo := Ho (fun a2 c2 w' h => HHo.o a2 c2 w' h (by omega))
       have c0 := HA4.o.cell (i := 0) rfl
       go_wp2_with fail
       refine (Rtoken_walk m hm w4).mono ?_
       rintro e w5 ⟨rfl, h9⟩
       have HU5 := Ho (HU4.o.trans h9)
       have HA5 := Ho (HA4.o.up h9)
       have HF5 := Ho (HF4.o.up h9)
       clear h9
       dsimp only
       cases htk : tok m.data.toList with
       | false =>
        have HE := Ho (show rv = .error 3 by rw [HRv.o, ← HC.o, if_pos htk]; rfl)
        go_wp2
        go_ret2
        rw [HE.o]
        exact ⟨rfl, HU5.o⟩
       | true =>
        rw [if_neg (by rw [htk]; simp)] at HC
        clear htk
        clear c0
        have c1 := HA5.o.cell (i := 1) rfl
        go_wp2_with fail
        refine (Rvisible_walk t ht w5).mono ?_
        rintro e w6 ⟨rfl, h9⟩
        have HU6 := Ho (HU5.o.trans h9)
        have HA6 := Ho (HA5.o.up h9)
        have HF6 := Ho (HF5.o.up h9)
        clear h9
        dsimp only
        cases htg : tgt t.data.toList with
        | false =>
         have HE := Ho (show rv = .error 3 by rw [HRv.o, ← HC.o, if_pos htg]; rfl)
         go_wp2
         go_ret2
         rw [HE.o]
         exact ⟨rfl, HU6.o⟩
        | true =>
         rw [if_neg (by rw [htg]; simp)] at HC
         clear htg c1
         have c0 := HA6.o.cell (i := 0) rfl
         go_wp2_with fail
         refine (Rknown_walk m w6 (range_up HMt.o HU6.o)).mono ?_
         rintro e w7 ⟨rfl, h9⟩
         obtain rfl := h9.symm
         clear h9
         dsimp only
         cases hmt : mtk m with
         | false =>
          have HE := Ho (show rv = .error 10 by rw [HRv.o, ← HC.o, if_pos hmt]; rfl)
          go_wp2
          go_ret2
          rw [HE.o]
          exact ⟨rfl, HU6.o⟩
         | true =>
          rw [if_neg (by rw [hmt]; simp)] at HC
          clear hmt c0
          have c2 := HA6.o.cell (i := 2) rfl
          have HM := Ho (show mnr mi = (mi == 0 || mi == 1) from mnr_eq mi)
          by_cases hm2 : mi = 0
          · subst hm2
            rw [if_neg (show ¬ mnr 0 = false by decide)] at HC
            go_wp2_with fail
            refine (HCf.o _ _ _ HF6.o).mono ?_
            rintro e w8 ⟨rfl, h9⟩
            have HU8 := Ho (HU6.o.trans h9)
            have HA8 := Ho (HA6.o.up h9)
            have HF8 := Ho (HF6.o.up h9)
            clear h9
            dsimp only
            clear c2
            cases hcf : ckf F with
            | some k =>
             have hkz := nums_ne (ckf_lt hcf)
             have HE := Ho (show rv = .error k by rw [HRv.o, ← HC.o, hcf]; rfl)
             clear hcf
             rw [show ckN (some k) = nums k from rfl]
             go_wp2
             go_ret2
             rw [HE.o]
             exact ⟨rfl, HU8.o⟩
            | none =>
             rw [hcf] at HC
             rw [show ckN none = 0 from rfl]
             clear hcf
             have c2 := HA8.o.cell (i := 2) rfl
             go_wp2_with fail
             refine (HHo.o _ _ _ HF8.o).mono ?_
             rintro e w9 ⟨rfl, h9⟩
             have HU9 := Ho (HU8.o.trans h9)
             have HA9 := Ho (HA8.o.up h9)
             have HF9 := Ho (HF8.o.up h9)
             clear h9
             dsimp only
             cases hch : ckh F 0 with
             | some k =>
              have hkz := nums_ne (ckh_lt hch)
              have HE := Ho (show rv = .error k by rw [HRv.o, ← HC.o, hch]; rfl)
              clear hch
              rw [show ckN (some k) = nums k from rfl]
              go_wp2
              go_ret2
              rw [HE.o]
              exact ⟨rfl, HU9.o⟩
             | none =>
              rw [hch] at HC
              rw [show ckN none = 0 from rfl]
              clear hch c2
              have c4 := HA9.o.cell (i := 4) rfl
              by_cases hbl : 1048576 < nb
              · have hblz : (1048576 : Int) < (nb : Int) := by omega
                have HE := Ho (show rv = .error 7 by rw [HRv.o, ← HC.o, if_pos hbl]; rfl)
                go_wp2
                go_ret2
                rw [HE.o]
                exact ⟨rfl, HU9.o⟩
              · have hblz : ¬ (1048576 : Int) < (nb : Int) := by omega
                have hbl2 : bd.length ≤ 1048576 := by have := HBn.o; omega
                go_wp2_with fail
                refine (HLd.o st _ _ _ HF9.o (HB.o.up HU9.o) (by rw [HSs.o]; omega) (by omega) (by omega)).mono ?_
                rintro e w10 ⟨⟨a8, c8, rfl, hO8⟩, h9⟩
                have HU10 := Ho (HU9.o.trans h9)
                have HO8 := Ho hO8.o
                clear h9 hO8
                rw [HSd.o] at HO8 ⊢
                dsimp only
                have HE := Ho (show rv = .ok (prt (frS m t 0) F bd) by rw [HRv.o, ← HC.o, if_neg hbl]; rfl)
                go_wp2
                go_ret2
                rw [HE.o]
                exact ⟨⟨a8, c8, rfl, Ho HO8.o⟩, HU10.o⟩
          · by_cases hm3 : mi = 1
            · subst hm3
              rw [if_neg (show ¬ mnr 1 = false by decide)] at HC
              go_wp2_with fail
              refine (HCf.o _ _ _ HF6.o).mono ?_
              rintro e w8 ⟨rfl, h9⟩
              have HU8 := Ho (HU6.o.trans h9)
              have HA8 := Ho (HA6.o.up h9)
              have HF8 := Ho (HF6.o.up h9)
              clear h9
              dsimp only
              clear c2
              cases hcf : ckf F with
              | some k =>
               have hkz := nums_ne (ckf_lt hcf)
               have HE := Ho (show rv = .error k by rw [HRv.o, ← HC.o, hcf]; rfl)
               clear hcf
               rw [show ckN (some k) = nums k from rfl]
               go_wp2
               go_ret2
               rw [HE.o]
               exact ⟨rfl, HU8.o⟩
              | none =>
               rw [hcf] at HC
               rw [show ckN none = 0 from rfl]
               clear hcf
               have c2 := HA8.o.cell (i := 2) rfl
               go_wp2_with fail
               refine (HHo.o _ _ _ HF8.o).mono ?_
               rintro e w9 ⟨rfl, h9⟩
               have HU9 := Ho (HU8.o.trans h9)
               have HA9 := Ho (HA8.o.up h9)
               have HF9 := Ho (HF8.o.up h9)
               clear h9
               dsimp only
               cases hch : ckh F 1 with
               | some k =>
                have hkz := nums_ne (ckh_lt hch)
                have HE := Ho (show rv = .error k by rw [HRv.o, ← HC.o, hch]; rfl)
                clear hch
                rw [show ckN (some k) = nums k from rfl]
                go_wp2
                go_ret2
                rw [HE.o]
                exact ⟨rfl, HU9.o⟩
               | none =>
                rw [hch] at HC
                rw [show ckN none = 0 from rfl]
                clear hch c2
                have c4 := HA9.o.cell (i := 4) rfl
                by_cases hbl : 1048576 < nb
                · have hblz : (1048576 : Int) < (nb : Int) := by omega
                  have HE := Ho (show rv = .error 7 by rw [HRv.o, ← HC.o, if_pos hbl]; rfl)
                  go_wp2
                  go_ret2
                  rw [HE.o]
                  exact ⟨rfl, HU9.o⟩
                · have hblz : ¬ (1048576 : Int) < (nb : Int) := by omega
                  have hbl2 : bd.length ≤ 1048576 := by have := HBn.o; omega
                  go_wp2_with fail
                  refine (HLd.o st _ _ _ HF9.o (HB.o.up HU9.o) (by rw [HSs.o]; omega) (by omega) (by omega)).mono ?_
                  rintro e w10 ⟨⟨a8, c8, rfl, hO8⟩, h9⟩
                  have HU10 := Ho (HU9.o.trans h9)
                  have HO8 := Ho hO8.o
                  clear h9 hO8
                  rw [HSd.o] at HO8 ⊢
                  dsimp only
                  have HE := Ho (show rv = .ok (prt (frS m t 1) F bd) by rw [HRv.o, ← HC.o, if_neg hbl]; rfl)
                  go_wp2
                  go_ret2
                  rw [HE.o]
                  exact ⟨⟨a8, c8, rfl, Ho HO8.o⟩, HU10.o⟩
            · have q0 : (mi == 0) = false := beq_eq_false_iff_ne.2 hm2
              have q1 : (mi == 1) = false := beq_eq_false_iff_ne.2 hm3
              have q2 : (mi != 0) = true := by rw [bne, q0]; rfl
              have q3 : (mi != 1) = true := by rw [bne, q1]; rfl
              have HMf := Ho (show mnr mi = false by rw [HM.o, q0, q1]; rfl)
              have HE := Ho (show rv = .error 4 by rw [HRv.o, ← HC.o, if_pos HMf.o]; rfl)
              go_wp2
              go_ret2
              rw [HE.o]
              exact ⟨rfl, HU6.o⟩
end Go.Proofs.YtkaoalcffgnfeaaGreatDoor
namespace Go.Proofs.YtkaoalcffgnfeaaGreatDoor
open Go.RowKit Go.Shelf TextNum
def z5 : List Value := [.int .i64 0, .int .i64 0, .slice none 0 0, .slice none 0 0, .bool false]
end Go.Proofs.YtkaoalcffgnfeaaGreatDoor
