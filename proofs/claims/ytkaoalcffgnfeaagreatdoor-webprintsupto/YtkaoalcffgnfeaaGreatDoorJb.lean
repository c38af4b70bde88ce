import Derived.Test.YtkaoalcffgnfeaaGreatDoorJa
import Derived.Deep.AppendSrc
namespace Go.Proofs.YtkaoalcffgnfeaaGreatDoor
open Go.RowKit Go.Shelf TextNum
theorem byteCells_cb (m : List UInt8) : byteCells ⟨m.toArray⟩ = cb m := by simp [byteCells, cb]
theorem str_szm (m : List UInt8) : (⟨m.toArray⟩ : ByteArray).size = m.length := by simp [ByteArray.size]
theorem run_app_str {w : World} {B : Nat} {v : Value} {l : List UInt8} (m : List UInt8) (ty : TypeId) (hown : Ow w B v l) (hn : l.length + m.length ≤ 140737488355328) (hB : B ≤ w.heap.size) :
 ∃ v' w', (Builtin.append_ #[23, 9] ty #[v, .string ⟨m.toArray⟩]).run Tryz.prog w = .ok v' w' ∧ Ow w' B v' (l ++ m) ∧ Below B w w' := by
 obtain ⟨i, hi, hz, hsize, hby⟩ := info_parts Tryz.infoU8
 have ht : Tryz.prog.underlying 23 = some (.slice 5) := Tryz.underlying23
 have hs0 : Src Tryz.prog 1 9 (.string ⟨m.toArray⟩) (⟨m.toArray⟩ : ByteArray).size (byteCells ⟨m.toArray⟩) w := Src.ofString w Tryz.underlying9 ⟨m.toArray⟩
 rw [byteCells_cb, str_szm] at hs0
 have hs : Src Tryz.prog i.size 9 (.string ⟨m.toArray⟩) m.length (cb m) w := by rw [hsize]; exact hs0
 have hlen : (cb l ++ cb m).length = l.length + m.length := by simp [cb]
 have grown : ∀ (old : Nat), old < l.length + m.length →
  (w.drew.alloc (.cells ((cb l ++ cb m).toArray ++ Builtin.zeroCells (Value.int .u8 0).cells (grownCap w (l.length + m.length) old 5 - (l.length + m.length))) 5)).ownsRow B 5 1
   (.slice (some ⟨w.heap.size, 0, none⟩) (l.length + m.length) (grownCap w (l.length + m.length) old 5)) (l.length + m.length) (cb l ++ cb m) := by
  intro old ho
  have hge := grownCap_ge w (l.length + m.length) old 5
  have hcm : grownCap w (l.length + m.length) old 5 ≤ maxLen := grownCap_le_maxLen w _ old _ (by unfold maxLen; omega)
  refine ⟨by rw [hlen, Nat.mul_one], .inr ⟨w.heap.size, _, _, rfl, hB, heap_alloc_new w.drew _, hge, hcm, ?_, ?_⟩⟩
  · simp only [Array.size_append, List.size_toArray, size_zeroCells, hlen]
    simp [Value.cells]
    omega
  · simp only [Array.toList_append]
    rw [Nat.mul_one, ← hlen]
    exact List.take_left
 have fin : ∀ {v' : Value} {w' : World}, w'.ownsRow B 5 1 v' (l.length + m.length) (cb l ++ cb m) → Ow w' B v' (l ++ m) := by
  intro v' w' h
  unfold Ow
  rw [List.length_append, cb_append]; exact h
 have up : ∀ o, Below B w (w.drew.alloc o) := fun o => Below.alloc (Below.drew (Below.refl B w)) hB o
 rcases hown.2 with ⟨rfl, e0⟩ | ⟨g, cap, cur, rfl, hbg, hg, hnc, hcm, hcs, htake⟩
 · have hl : l = [] := List.eq_nil_of_length_eq_zero e0
   subst hl
   by_cases hm : m = []
   · subst hm
     refine ⟨.slice none 0 0, w, ?_, hown, Below.refl _ _⟩
     have hk : Tryz.prog.underlying 9 = some .string := Tryz.underlying9
     simp [Builtin.append_, run_underlying ht, run_underlying hk, sizeOf, typeInfo, hi, Builtin.lenOf, Builtin.firstCells]
     rw [if_pos (show (⟨#[]⟩ : ByteArray) = ByteArray.empty from rfl)]
     rfl
   · have hp : 0 < m.length := List.length_pos_iff.2 hm
     have hr := run_append_grow_src (P := Tryz.prog) w 23 9 ty 5 i _ ht hi hz none 0 0 [] (run_firstCells_none w.drew i.size 0 0 0) _ m.length (cb m) hs (by omega) (by simp at hn; omega) (growslice_fits (by omega) (by rw [hby]; simp at hn; omega))
     have hgr := grown 0 (by simpa using hp)
     simp only [List.length_nil] at hgr fin
     exact ⟨_, _, hr, fin hgr, up _⟩
 · by_cases hroom : l.length + m.length ≤ cap
   · have hfit : l.length * 1 + (cb m).length ≤ cur.size := by rw [hcs, cb_length]; omega
     have hst := run_storeCells_at Tryz.prog g (l.length * i.size) 5 (cb m) 0 cur w hg (by rw [hsize]; simpa using hfit) (cb_one m)
     have hk : Tryz.prog.underlying 9 = some .string := Tryz.underlying9
     simp only [Nat.add_zero] at hst
     have hr : (Builtin.append_ #[23, 9] ty #[.slice (some ⟨g, 0, none⟩) l.length cap, .string ⟨m.toArray⟩]).run Tryz.prog w =
      .ok (.slice (some ⟨g, 0, none⟩) (l.length + m.length) cap) (w.setRow g (cur.toList.take (l.length * i.size) ++ cb m ++ cur.toList.drop (l.length * i.size + (cb m).length)).toArray) := by
      simp [Builtin.append_, run_underlying ht, run_underlying hk, sizeOf, typeInfo, hi, hs.len, hroom, hs.cells, Addr.add_lit, hst]
     refine ⟨_, _, hr, fin ⟨by rw [hlen, Nat.mul_one], .inr ⟨g, cap, _, rfl, hbg, setRow_heap w g cur _ 5 _ hg, hroom, hcm, ?_, ?_⟩⟩, ⟨rfl, rfl, rfl, by simp, fun k hk => setRow_other w g k _ (by omega)⟩⟩
     · simp only [List.size_toArray, List.length_append, List.length_take, List.length_drop, Array.length_toList, cb_length, hsize]
       omega
     · rw [hsize, htake, ← Nat.mul_one (l.length + m.length), Nat.mul_one, ← hlen]
       simp only [Nat.mul_one]
       exact List.take_left
   · have holds : ∀ j u, (cb l)[j]? = some u → w.cell? ((⟨g, 0, none⟩ : Addr).add j) = some u := World.ownsRow.cells hown (g := g) rfl
     have hold := run_firstCells_some (P := Tryz.prog) w.drew i.size l.length ⟨g, 0, none⟩ l.length cap (cb l) (by rw [hsize, cb_length, Nat.mul_one]) (by simpa using holds)
     have hr := run_append_grow_src (P := Tryz.prog) w 23 9 ty 5 i _ ht hi hz (some ⟨g, 0, none⟩) l.length cap (cb l) hold _ m.length (cb m) hs (by omega) (by omega) (growslice_fits (by omega) (by rw [hby]; omega))
     exact ⟨_, _, hr, fin (grown cap (by omega)), up _⟩
theorem wpList_mk {ops : Array Oper} {rest : List Oper} {o : Oper} {a : Act} {w : World} {Q : Exit → Act → World → Prop} (hg : o.guard = none) (l c : Operand) (hop : o.op = Op.makeSlice 23 l c)
 (kl kc : IntKind) (C : Int) (n : Nat) (hl : a.eval l = .int kl 0) (hc : a.eval c = .int kc C) (hC : C = (n : Int)) (hn : n ≤ 140737488355328)
 (hK : ∀ w', Ow w' w.heap.size (.slice (some ⟨w.heap.size, 0, none⟩) 0 n) [] → Up w w' → wpList Tryz.prog ops Q rest (a.put o.dst (.slice (some ⟨w.heap.size, 0, none⟩) 0 n)) w') : wpList Tryz.prog ops Q (o :: rest) a w := by
 obtain ⟨i0, hi, hz0, hz1, hz2⟩ := info_parts Tryz.infoU8
 refine wpList_make_own w hg l c 23 hop w.heap.size 5 i0 (.int .u8 0) 1 Tryz.underlying23 hi hz0 hz1 kl kc C n hl hc hC (by rw [hz2]; omega) (by unfold maxLen; omega) (Nat.le_refl _) ?_
 intro w' h1 h2
 exact hK w' h1 ((Below.refl _ w).grown h2 (Nat.le_refl _) (fun k hk => by cases hk))
theorem wpList_appStr {w : World} {N q : Nat} {ops : Array Oper} {rest : List Oper} {o : Oper} {a : Act} {Q : Exit → Act → World → Prop} (hgd : o.guard = none) (x y : Operand)
 (ho : o.op = .call { callee := .builtin .append, args := #[x, y], argTypes := #[23, 9] }) (ax : Option Addr) (cx : Nat) (xs : List UInt8) (s : ByteArray) (m : List UInt8) (hx : a.eval x = .slice ax q cx) (hy : a.eval y = .string s) (hm : s.data.toList = m)
 (hq : xs.length = q) (hR : Ow w N (.slice ax q cx) xs) (hNw : N ≤ w.heap.size) (hql : q + m.length ≤ 1099511627776)
 (K : ∀ ax2 cx2 w', Ow w' N (.slice ax2 (q + m.length) cx2) (xs ++ m) → (∀ W, Up W w → W.heap.size ≤ N → Up W w') → wpList Tryz.prog ops Q rest (a.put o.dst (.slice ax2 (q + m.length) cx2)) w') :
 wpList Tryz.prog ops Q (o :: rest) a w := by
 refine wpList_plain hgd fun K2 hK => ?_
 obtain ⟨v', w', hr, h2, h3⟩ := run_app_str m o.type hR (by omega) hNw
 have hy2 : a.eval y = .string ⟨m.toArray⟩ := by rw [hy, ← hm]
 obtain ⟨a2, c2, rfl⟩ : ∃ a2 c2, v' = .slice a2 (q + m.length) c2 := by
  have hl : (xs ++ m).length = q + m.length := by rw [List.length_append, hq]
  unfold Ow at h2
  rw [hl] at h2
  obtain ⟨a4, c4, e4⟩ := row_len h2
  exact ⟨a4, c4, e4⟩
 unfold Oper.wp execOp
 simp only [ho, resolve, invoke, builtin, Sem.run_bind, Sem.run_pure, Result.andThen_ok, List.map_toArray, List.map_cons, List.map_nil, hx, hy2, hr]
 exact hK _ _ (K a2 c2 w' h2 (fun W hU hW => Below.trans (B := W.heap.size) hU (h3.mono hW)))
def lnb (f : FD) : List UInt8 := f.n.data.toList ++ [58, 32] ++ f.v.data.toList ++ [13, 10]
def lbs (fs : List FD) : List UInt8 := fs.flatMap lnb
def prt (st : List UInt8) (fs : List FD) (bd : List UInt8) : List UInt8 := (((st ++ [13, 10]) ++ lbs fs) ++ [13, 10]) ++ bd
theorem lnb_len (f : FD) : (lnb f).length = szf f := by
 have h1 := Go.Lib.size_eq f.n
 have h2 := Go.Lib.size_eq f.v
 simp only [lnb, List.length_append, List.length_cons, List.length_nil]
 unfold szf
 omega
theorem lbs_len : ∀ fs : List FD, (lbs fs).length + 2 = szs fs
 | [] => rfl
 | f :: r => by
  have h := lbs_len r
  have e : szs (f :: r) = szf f + szs r := by simp [szs]; omega
  have e2 : lbs (f :: r) = lnb f ++ lbs r := by simp [lbs]
  rw [e, e2, List.length_append, lnb_len]
  omega
theorem lbs_snoc (fs : List FD) (f : FD) : lbs (fs ++ [f]) = lbs fs ++ lnb f := by simp [lbs]
theorem bat_app (a b : ByteArray) : (a ++ b).data.toList = a.data.toList ++ b.data.toList := by rw [ByteArray.data_append, Array.toList_append]
set_option maxRecDepth 100000 in
set_option maxHeartbeats 2000000 in
theorem printMessage_walk (s : ByteArray) (a : Option Addr) (fs : List FD) (c : Nat) (ab : Option Addr) (nb cb' : Nat) (bd : List UInt8) (w : World) (h : FdL w a fs c) (hb : Sb w (.slice ab nb cb') bd) (hs : s.size ≤ 1048576) (hl : szs fs ≤ 1048576) (hbl : bd.length ≤ 1048576) :
 Calls Tryz.prog 43 #[.string s, .slice a fs.length c, .slice ab nb cb'] w fun e w' => (∃ a2 c2, e = .returned (.slice a2 (prt s.data.toList fs bd).length c2) ∧ Hd (Ow w' w.heap.size (.slice a2 (prt s.data.toList fs bd).length c2) (prt s.data.toList fs bd))) ∧ Up w w' := by
 have HF := Ho h
 have HB := Ho hb
 obtain ⟨hbn, hbc, hbm⟩ := hb.len
 unfold maxLen at hbm
 have HBn := Ho hbn
 have hnb : nb ≤ 1048576 := by omega
 have hcap := h.cap
 have hsl := szs_len fs
 have HZ := Ho (fun i => szs_take fs i)
 have HSz := Ho (sizeOf_walk a fs c w h (by omega))
 have HLl := Ho (lbs_len fs)
 have HSs := Ho (Go.Lib.size_eq s)
 clear h hb hbn
 obtain ⟨z, hz⟩ := ny (szs fs)
 rw [hz] at hl hsl HZ HSz HLl
 clear hz
 have hlen2 : ¬ 9223372036854775807 < s.size + 2 := by omega
 go_enter Tryz.func43, Tryz.ntmps43
 go_wp2_with fail
 refine HSz.o.mono ?_
 rintro e w2 ⟨rfl, h9⟩
 have HU2 := Ho h9
 clear h9
 dsimp only
 go_wp2_with (with_reducible show wpList _ _ _ (⟨_, .makeSlice 23 _ _, _, _, _, _⟩ :: _) _ _; refine Shut.out ?_)
 show wpList _ _ _ _ _ _
 refine wpList_mk rfl _ _ rfl .i64 .i64 _ (s.size + 2 + z + nb) rfl rfl (by push_cast; rfl) (by omega) ?_
 intro w3 o3 u3
 have HO3 := Ho (show Ow w3 w.heap.size _ [] from ow_base o3 HU2.o.size)
 have HU3 := Ho (HU2.o.trans u3)
 clear o3 u3
 simp only [Act.put, pB, pC, pD]
 go_wp2_with (with_reducible refine sA ?_)
 show wpList _ _ _ _ _ _
 refine wpList_appStr (N := w.heap.size) rfl _ _ rfl _ _ [] (s ++ ⟨#[13, 10]⟩) (s.data.toList ++ [13, 10]) rfl rfl (bat_app s ⟨#[13, 10]⟩) rfl HO3.o HU3.o.size (by rw [List.length_append, ← HSs.o]; simp only [List.length_cons, List.length_nil]; omega) ?_
 intro a4 c4 w4 o4 u4
 have HP := Ho (show prt s.data.toList fs bd = (((s.data.toList ++ [13, 10]) ++ lbs fs) ++ [13, 10]) ++ bd from rfl)
 have hn4' : (s.data.toList ++ [13, 10]).length = s.size + 2 := by rw [List.length_append, ← HSs.o]; rfl
 generalize s.data.toList ++ [13, 10] = st2 at o4 HP hn4' ⊢
 obtain ⟨n4, hn4⟩ := ny (0 + st2.length)
 rw [hn4] at o4 ⊢
 have hn4z : n4 = s.size + 2 := by omega
 have HN4 := Ho (show st2.length = n4 by omega)
 have HO4 := Ho (show Ow w4 w.heap.size (.slice a4 n4 c4) st2 from o4)
 have HU4 := Ho (u4 w HU3.o (Nat.le_refl _))
 have hn4l : n4 ≤ 1048578 := by omega
 clear o4 u4 hn4 hn4' hn4z
 simp only [Act.put, pB, pC, pD]
 go_wp2
 go_loopw [7, 26] (fun v7 v26 wr => ∃ i : Nat, v26 = .int .i64 (i : Int) ∧ i ≤ fs.length ∧ ∃ q a7 c7, v7 = .slice a7 q c7 ∧ q ≤ 3145728 ∧ Hd (Ow wr w.heap.size (.slice a7 q c7) (st2 ++ lbs (fs.take i)) ∧ Up w wr ∧ (st2 ++ lbs (fs.take i)).length = q)) (fun _ v26 _ => fs.length - (intOf v26).toNat)
 case atStart => exact ⟨0, rfl, Nat.zero_le _, n4, a4, c4, rfl, by omega, Ho ⟨by rw [List.take_zero, show lbs [] = [] from rfl, List.append_nil]; exact HO4.o, HU4.o, by rw [List.take_zero, show lbs [] = [] from rfl, List.append_nil]; exact HN4.o⟩⟩
 case round =>
  obtain ⟨i, rfl, hi, q, a7, c7, rfl, hqi, hU⟩ := hrel
  have HQ := Ho hU.o
  clear hU
  by_cases hil : i < fs.length
  · have hilz : (i : Int) < (fs.length : Int) := by omega
    obtain ⟨b, off, rfl, k1, k2⟩ := HF.o.cells i hil
    have HRg := Ho (range2 (HQ.o.2.1.cell k1) (HQ.o.2.1.cell k2))
    have HT := Ho (List.take_succ_eq_append_getElem hil)
    obtain ⟨f, hf⟩ := ny (fs[i])
    rw [hf] at HRg HT
    have h5 := HZ.o (i + 1)
    have h6 := lbs_len (fs.take (i + 1))
    have h7 := HQ.o.2.2
    have h8 := HN4.o
    rw [List.length_append] at h7
    rw [HT.o, szs_snoc] at h5 h6
    rw [lbs_snoc, List.length_append, lnb_len] at h6
    have h9 := lnb_len f
    unfold szf at h5 h6 h9
    have hl1 : ¬ 9223372036854775807 < f.n.size + 2 := by omega
    have hl2 : ¬ 9223372036854775807 < f.n.size + 2 + f.v.size := by omega
    have hl3 : ¬ 9223372036854775807 < f.n.size + 2 + f.v.size + 2 := by omega
    have hq7 : q + (lnb f).length ≤ 3145728 := by omega
    have HLb := Ho (show (f.n ++ ⟨#[58, 32]⟩ ++ f.v ++ ⟨#[13, 10]⟩ : ByteArray).data.toList = lnb f by rw [bat_app, bat_app, bat_app]; rfl)
    have HS2 := Ho (show st2 ++ lbs (fs.take (i + 1)) = (st2 ++ lbs (fs.take i)) ++ lnb f by rw [HT.o, lbs_snoc, List.append_assoc])
    have HL2 := Ho (show (st2 ++ lbs (fs.take (i + 1))).length = q + (lnb f).length by rw [HS2.o, List.length_append, HQ.o.2.2])
    clear hf k1 k2 h5 h6 h7 h8 h9
    go_wp2_with (with_reducible refine sI 34 ?_)
    show wpList _ _ _ _ _ _
    refine wpList_val7 (.pointer (some ⟨b, off + i * 2, none⟩)) rfl (exec_idxFd i hil rfl rfl rfl) ?_
    simp only [Act.put, pB, pC, pD]
    refine wpList_load_mid rfl _ _ rfl b (off + i * 2) rfl [.string f.n, .string f.v] _ HRg.o Tryz.underlying87 rfl infoFd2 ?_
    simp only [Act.put, pB, pC, pD]
    have HUr := Ho ((Up.refl wr).alloc (.cells [.string f.n, .string f.v].toArray 87))
    have HUx := Ho (HQ.o.2.1.trans HUr.o)
    have HOx := Ho (ow_up HQ.o.1 HUr.o)
    go_wp2_with (with_reducible refine sA ?_)
    show wpList _ _ _ _ _ _
    refine wpList_appStr (N := w.heap.size) rfl _ _ rfl a7 c7 (st2 ++ lbs (fs.take i)) _ (lnb f) rfl rfl HLb.o HQ.o.2.2 HOx.o HUx.o.size (by omega) ?_
    intro a5 c5 w5 o5 u5
    have HO5 := Ho (show Ow w5 w.heap.size (.slice a5 (q + (lnb f).length) c5) (st2 ++ lbs (fs.take (i + 1))) by rw [HS2.o]; exact o5)
    have HU5 := Ho (u5 w HUx.o (Nat.le_refl _))
    clear o5 u5
    simp only [Act.put, pB, pC, pD]
    go_wp2
    go_roundw
    all_goals first
     | exact ⟨i + 1, by go_num, by omega, q + (lnb f).length, a5, c5, rfl, by omega, Ho ⟨HO5.o, HU5.o, HL2.o⟩⟩
     | (simp [intOf]; omega)
  · have hilz : ¬ (i : Int) < (fs.length : Int) := by omega
    have HTk := Ho (show fs.take i = fs from List.take_of_length_le (by omega))
    rw [HTk.o] at HQ
    go_wp2_with (with_reducible refine sA ?_)
    show wpList _ _ _ _ _ _
    refine wpList_appStr (N := w.heap.size) rfl _ _ rfl a7 c7 (st2 ++ lbs fs) ⟨#[13, 10]⟩ [13, 10] rfl rfl rfl HQ.o.2.2 HQ.o.1 HQ.o.2.1.size (by simp only [List.length_cons, List.length_nil]; omega) ?_
    intro a5 c5 w5 o5 u5
    have HO5 := Ho o5
    have HU5 := Ho (u5 w HQ.o.2.1 (Nat.le_refl _))
    have HN5 := Ho (show ((st2 ++ lbs fs) ++ [13, 10]).length = q + 2 by rw [List.length_append, HQ.o.2.2]; rfl)
    clear o5 u5
    have e2 : q + [13, (10 : UInt8)].length = q + 2 := rfl
    rw [e2] at HO5 ⊢
    clear e2
    simp only [Act.put, pB, pC, pD]
    go_wp2_with (with_reducible refine sA ?_)
    show wpList _ _ _ _ _ _
    refine wpList_appSb (N := w.heap.size) rfl _ _ rfl a5 c5 ((st2 ++ lbs fs) ++ [13, 10]) _ bd rfl rfl (HB.o.up HU5.o) (by have := HO5.o; unfold Ow at this; rw [HN5.o] at this; exact this) HU5.o.size (by omega) ?_
    intro a6 c6 w6 o6 u6
    have HU6 := Ho (u6 w HU5.o (Nat.le_refl _))
    have HN6 := Ho (show (prt s.data.toList fs bd).length = q + 2 + bd.length by rw [HP.o, List.length_append, HN5.o])
    have HO6 := Ho (show Ow w6 w.heap.size (.slice a6 (prt s.data.toList fs bd).length c6) (prt s.data.toList fs bd) by unfold Ow; rw [HN6.o, HP.o]; exact o6)
    clear o6 u6
    simp only [Act.put, pB, pC, pD]
    go_wp2
    go_ret
    exact ⟨⟨a6, c6, by rw [HN6.o]; rfl, Ho HO6.o⟩, HU6.o⟩
end Go.Proofs.YtkaoalcffgnfeaaGreatDoor
namespace Go.Proofs.YtkaoalcffgnfeaaGreatDoor
open Go.RowKit Go.Shelf TextNum
def ckq (m t : ByteArray) (mi : Int) (fs : List FD) (nb : Nat) : Option Nat :=
 if 8000 < m.size + 1 + t.size + 1 + (vtx mi).length then some 9 else if 16384 < szs fs then some 1 else if tok m.data.toList = false then some 3 else if tgt t.data.toList = false then some 3 else if mtk m = false then some 10 else if mnr mi = false then some 4 else
  match ckf fs with
  | some k => some k
  | none => match ckh fs mi with
   | some k => some k
   | none => if 1048576 < nb then some 7 else none
theorem vtx_len (mi : Int) (h0 : -9223372036854775808 ≤ mi) (h1 : mi ≤ 9223372036854775807) : (vtx mi).length ≤ 64 := by
 have := itoa_len mi h0 h1
 unfold vtx
 rw [List.length_append]
 simp only [List.length_cons, List.length_nil]
 omega
theorem ev_neq (ad : Nat → Addr) (k : Nat) : ∀ w, (binOp .neq 73 (ev (ad k)) .nilIface).run Tryz.prog w = .ok (.bool true) w := by
 intro w
 kernel_rfl
theorem szs_mem : ∀ (fs : List FD) {f : FD}, f ∈ fs → f.n.size + f.v.size ≤ szs fs
 | g :: r, f, h => by
  have e : szs (g :: r) = szf g + szs r := by simp [szs]; omega
  rw [e]
  rcases List.mem_cons.1 h with rfl | h
  · unfold szf
    omega
  · have := szs_mem r h
    omega
set_option maxRecDepth 100000 in
set_option maxHeartbeats 4000000 in
theorem checkRequest_walk (ad : Nat → Addr) (m t : ByteArray) (mi : Int) (af : Option Addr) (nf cf : Nat) (ab : Option Addr) (nb cb' : Nat) (cl : Bool) (a : Option Addr) (fs : List FD) (c : Nat) (w : World) (h : FdL w a fs c) (hG : GW w ad) (hm : m.size ≤ 1099511627776) (ht : t.size ≤ 1099511627776)
 (hm0 : -9223372036854775808 ≤ mi) (hm1 : mi ≤ 9223372036854775807) (hl : szs fs ≤ 1099511627776) (hnb : nb ≤ 1099511627776) :
 Calls Tryz.prog 42 #[.agg #[.string m, .string t, .int .i64 mi, .slice af nf cf, .slice ab nb cb', .bool cl], .slice a fs.length c] w fun e w' => e = .returned (eoV ad (ckq m t mi fs nb)) ∧ Up w w' := by
 have HF := Ho h
 have HW := Ho hG
 have hcap := h.cap
 have hsl := szs_len fs
 have hvl := vtx_len mi hm0 hm1
 have HVz := Ho (show (⟨(vtx mi).toArray⟩ : ByteArray).size = (vtx mi).length from by simp [ByteArray.size])
 clear h hG
 obtain ⟨q6, hq6⟩ := ny ([.string m, .string t, .int .i64 mi, .slice af nf cf, .slice ab nb cb', .bool cl] : List Value)
 have HA0 := Ho (at_new w 36 [.string m, .string t, .int .i64 mi, .slice af nf cf, .slice ab nb cb', .bool cl])
 have HU0 := Ho ((Up.refl w).alloc (.cells [.string m, .string t, .int .i64 mi, .slice af nf cf, .slice ab nb cb', .bool cl].toArray 36))
 obtain ⟨rv, hrv⟩ := ny (eoV ad (ckq m t mi fs nb))
 rw [hrv]
 unfold ckq at hrv
 have HR := Ho hrv
 clear hrv
 obtain ⟨z, hz⟩ := ny (szs fs)
 have HSz := Ho (fun w (hF : FdL w a fs c) => sizeOf_walk a fs c w hF hl)
 have HCf := Ho (fun w (hF : FdL w a fs c) (hE : GE w ad) => checkFields_walk ad a fs c w hF hl hE)
 have HMe := Ho (fun (f : FD) => szs_mem fs (f := f))
 rw [hz] at HR hl hsl HSz HMe
 clear hz
 have HVx := Ho (show vs (vtx mi) = .string ⟨(vtx mi).toArray⟩ from rfl)
 generalize hvt : (⟨(vtx mi).toArray⟩ : ByteArray) = vt at HVx HVz
 generalize (vtx mi).length = vl at *
 clear hvt
 clear hq6 q6
 go_enter Tryz.func42, Tryz.ntmps42
 go_wp2
 obtain ⟨w1, hw1⟩ := ny (w.alloc (.cells [.string m, .string t, .int .i64 mi, .slice af nf cf, .slice ab nb cb', .bool cl].toArray 36))
 rw [hw1] at HA0 HU0
 change Code.wp _ _ _ _ (w.alloc (.cells [.string m, .string t, .int .i64 mi, .slice af nf cf, .slice ab nb cb', .bool cl].toArray 36))
 rw [hw1]
 clear hw1
 by_cases h1 : 8000 < m.size + 1 + t.size + 1 + vl
 · have h1z : 8000 < (m.size : Int) + 1 + (t.size : Int) + 1 + (vl : Int) := by omega
   refine wp_region_held_drew (S := fun w2 => At w2 w.heap.size 36 [.string m, .string t, .int .i64 mi, .slice af nf cf, .slice ab nb cb', .bool cl] ∧ GW w2 ad ∧ Up w w2) (by kernel_rfl) ⟨HA0.o.up (Up.refl _).drew, (HW.o.up HU0.o).up (Up.refl _).drew, HU0.o.drew⟩ (fun hS => ?_)
   refine tN 0 (some 8) (.fieldAddr 36 (.tmp 2) 0) 0 (.pointer (some ⟨w.heap.size, 0, none⟩)) hS ?_
   simp only [pA, pB, pC, pD]
   refine tK 1 (some 9) (.load 9 (.tmp 8)) 9 (.string m) hS ?_ ?_
   · intro _ _ w5 hSw
     have h0 := hSw.1.cell (i := 0) rfl
     clear hSw hS
     go_simp
   simp only [pA, pB, pC, pD]
   refine tN 2 (some 10) (.call ⟨.builtin .len, #[.tmp 9], #[9]⟩) 3 (.int .i64 (m.size : Int)) hS ?_
   simp only [pA, pB, pC, pD]
   refine tK 3 (some 11) (.binOp .add 3 (.tmp 10) (.const (.int .i64 1)) 3) 3 (.int .i64 ((m.size : Int) + 1)) hS ?_ ?_
   · intro _ _ w5 hSw
     clear hSw hS
     go_simp
     rw [IntKind.wrap_i64]
     omega
   simp only [pA, pB, pC, pD]
   refine tN 4 (some 12) (.fieldAddr 36 (.tmp 2) 1) 0 (.pointer (some ⟨w.heap.size, 1, none⟩)) hS ?_
   simp only [pA, pB, pC, pD]
   refine tK 5 (some 13) (.load 9 (.tmp 12)) 9 (.string t) hS ?_ ?_
   · intro _ _ w5 hSw
     have h0 := hSw.1.cell (i := 1) rfl
     clear hSw hS
     go_simp
   simp only [pA, pB, pC, pD]
   refine tN 6 (some 14) (.call ⟨.builtin .len, #[.tmp 13], #[9]⟩) 3 (.int .i64 (t.size : Int)) hS ?_
   simp only [pA, pB, pC, pD]
   refine tK 7 (some 15) (.binOp .add 3 (.tmp 11) (.tmp 14) 3) 3 (.int .i64 ((m.size : Int) + 1 + (t.size : Int))) hS ?_ ?_
   · intro _ _ w5 hSw
     clear hSw hS
     go_simp
     rw [IntKind.wrap_i64]
     omega
   simp only [pA, pB, pC, pD]
   refine tK 8 (some 16) (.binOp .add 3 (.tmp 15) (.const (.int .i64 1)) 3) 3 (.int .i64 ((m.size : Int) + 1 + (t.size : Int) + 1)) hS ?_ ?_
   · intro _ _ w5 hSw
     clear hSw hS
     go_simp
     rw [IntKind.wrap_i64]
     omega
   simp only [pA, pB, pC, pD]
   refine tN 9 (some 17) (.fieldAddr 36 (.tmp 2) 2) 0 (.pointer (some ⟨w.heap.size, 2, none⟩)) hS ?_
   simp only [pA, pB, pC, pD]
   refine tK 10 (some 18) (.load 3 (.tmp 17)) 3 (.int .i64 mi) hS ?_ ?_
   · intro _ _ w5 hSw
     have h0 := hSw.1.cell (i := 2) rfl
     clear hSw hS
     go_simp
   simp only [pA, pB, pC, pD]
   refine rD 11 (some 19) (.call ⟨.value (.func 44), #[.tmp 18], #[3]⟩) 9 fun _ _ K hK => ?_
   rw [if_pos (by kernel_rfl)]
   go_simp
   refine (versionText_walk mi hm0 hm1 w1.drew ((HW.o.up HU0.o).up (Up.refl _).drew).gn).mono ?_
   rintro e w2 ⟨rfl, h9⟩
   have HU2 := Ho (HU0.o.drew.trans h9)
   have HA2 := Ho ((HA0.o.up (Up.refl _).drew).up h9)
   clear h9 hS
   rw [HVx.o]
   dsimp only
   refine hK.out _ _ ⟨HA2.o, HW.o.up HU2.o, HU2.o⟩ (fun hS => ?_)
   clear hK K
   refine tK 12 (some 20) (.call ⟨.builtin .len, #[.tmp 19], #[9]⟩) 3 (.int .i64 (vl : Int)) hS ?_ ?_
   · intro _ _ w5 hSw
     clear hSw hS
     have hvs := HVz.o
     go_simp
   simp only [Act.put, pB, pC, pD]
   refine tK 13 (some 21) (.binOp .add 3 (.tmp 16) (.tmp 20) 3) 3 (.int .i64 ((m.size : Int) + 1 + (t.size : Int) + 1 + (vl : Int))) hS ?_ ?_
   · intro _ _ w5 hSw
     clear hSw hS
     go_simp
     rw [IntKind.wrap_i64]
     omega
   simp only [pA, pB, pC, pD]
   refine tN 14 (some 22) (.binOp .gtr 3 (.tmp 21) (.const (.int .i64 8000)) 3) 4 (.bool true) hS ?_
   simp only [pA, pB, pC, pD]
   refine tN 15 (some 7) (.assign (.tmp 22)) 4 (.bool true) hS ?_
   simp only [pA, pB, pC, pD]
   clear hS
   refine wpAnyH_done (by kernel_rfl) ?_ _
   have HE := Ho (show rv = ev (ad 9) by rw [← HR.o, if_pos h1]; rfl)
   have hgl : w2.cell? ⟨0, 0, none⟩ = _ := (HW.o.up HU2.o).ge.gl 9 (by decide)
   go_wp2
   go_ret
   rw [HE.o]
   exact ⟨rfl, HU2.o⟩
 · have h1z : ¬ 8000 < (m.size : Int) + 1 + (t.size : Int) + 1 + (vl : Int) := by omega
   rw [if_neg h1] at HR
   refine wp_region_held_drew (S := fun w2 => At w2 w.heap.size 36 [.string m, .string t, .int .i64 mi, .slice af nf cf, .slice ab nb cb', .bool cl] ∧ GW w2 ad ∧ Up w w2) (by kernel_rfl) ⟨HA0.o.up (Up.refl _).drew, (HW.o.up HU0.o).up (Up.refl _).drew, HU0.o.drew⟩ (fun hS => ?_)
   refine tN 0 (some 8) (.fieldAddr 36 (.tmp 2) 0) 0 (.pointer (some ⟨w.heap.size, 0, none⟩)) hS ?_
   simp only [pA, pB, pC, pD]
   refine tK 1 (some 9) (.load 9 (.tmp 8)) 9 (.string m) hS ?_ ?_
   · intro _ _ w5 hSw
     have h0 := hSw.1.cell (i := 0) rfl
     clear hSw hS
     go_simp
   simp only [pA, pB, pC, pD]
   refine tN 2 (some 10) (.call ⟨.builtin .len, #[.tmp 9], #[9]⟩) 3 (.int .i64 (m.size : Int)) hS ?_
   simp only [pA, pB, pC, pD]
   refine tK 3 (some 11) (.binOp .add 3 (.tmp 10) (.const (.int .i64 1)) 3) 3 (.int .i64 ((m.size : Int) + 1)) hS ?_ ?_
   · intro _ _ w5 hSw
     clear hSw hS
     go_simp
     rw [IntKind.wrap_i64]
     omega
   simp only [pA, pB, pC, pD]
   refine tN 4 (some 12) (.fieldAddr 36 (.tmp 2) 1) 0 (.pointer (some ⟨w.heap.size, 1, none⟩)) hS ?_
   simp only [pA, pB, pC, pD]
   refine tK 5 (some 13) (.load 9 (.tmp 12)) 9 (.string t) hS ?_ ?_
   · intro _ _ w5 hSw
     have h0 := hSw.1.cell (i := 1) rfl
     clear hSw hS
     go_simp
   simp only [pA, pB, pC, pD]
   refine tN 6 (some 14) (.call ⟨.builtin .len, #[.tmp 13], #[9]⟩) 3 (.int .i64 (t.size : Int)) hS ?_
   simp only [pA, pB, pC, pD]
   refine tK 7 (some 15) (.binOp .add 3 (.tmp 11) (.tmp 14) 3) 3 (.int .i64 ((m.size : Int) + 1 + (t.size : Int))) hS ?_ ?_
   · intro _ _ w5 hSw
     clear hSw hS
     go_simp
     rw [IntKind.wrap_i64]
     omega
   simp only [pA, pB, pC, pD]
   refine tK 8 (some 16) (.binOp .add 3 (.tmp 15) (.const (.int .i64 1)) 3) 3 (.int .i64 ((m.size : Int) + 1 + (t.size : Int) + 1)) hS ?_ ?_
   · intro _ _ w5 hSw
     clear hSw hS
     go_simp
     rw [IntKind.wrap_i64]
     omega
   simp only [pA, pB, pC, pD]
   refine tN 9 (some 17) (.fieldAddr 36 (.tmp 2) 2) 0 (.pointer (some ⟨w.heap.size, 2, none⟩)) hS ?_
   simp only [pA, pB, pC, pD]
   refine tK 10 (some 18) (.load 3 (.tmp 17)) 3 (.int .i64 mi) hS ?_ ?_
   · intro _ _ w5 hSw
     have h0 := hSw.1.cell (i := 2) rfl
     clear hSw hS
     go_simp
   simp only [pA, pB, pC, pD]
   refine rD 11 (some 19) (.call ⟨.value (.func 44), #[.tmp 18], #[3]⟩) 9 fun _ _ K hK => ?_
   rw [if_pos (by kernel_rfl)]
   go_simp
   refine (versionText_walk mi hm0 hm1 w1.drew ((HW.o.up HU0.o).up (Up.refl _).drew).gn).mono ?_
   rintro e w2 ⟨rfl, h9⟩
   have HU2 := Ho (HU0.o.drew.trans h9)
   have HA2 := Ho ((HA0.o.up (Up.refl _).drew).up h9)
   clear h9 hS
   rw [HVx.o]
   dsimp only
   refine hK.out _ _ ⟨HA2.o, HW.o.up HU2.o, HU2.o⟩ (fun hS => ?_)
   clear hK K
   refine tK 12 (some 20) (.call ⟨.builtin .len, #[.tmp 19], #[9]⟩) 3 (.int .i64 (vl : Int)) hS ?_ ?_
   · intro _ _ w5 hSw
     clear hSw hS
     have hvs := HVz.o
     go_simp
   simp only [Act.put, pB, pC, pD]
   refine tK 13 (some 21) (.binOp .add 3 (.tmp 16) (.tmp 20) 3) 3 (.int .i64 ((m.size : Int) + 1 + (t.size : Int) + 1 + (vl : Int))) hS ?_ ?_
   · intro _ _ w5 hSw
     clear hSw hS
     go_simp
     rw [IntKind.wrap_i64]
     omega
   simp only [pA, pB, pC, pD]
   refine tN 14 (some 22) (.binOp .gtr 3 (.tmp 21) (.const (.int .i64 8000)) 3) 4 (.bool false) hS ?_
   simp only [pA, pB, pC, pD]
   refine tN 15 (some 7) (.assign (.tmp 22)) 4 (.bool false) hS ?_
   simp only [pA, pB, pC, pD]
   clear hS
   refine wpAnyH_done (by kernel_rfl) ?_ _
   go_wp2_with fail
   refine (HSz.o w2 (HF.o.up HU2.o)).mono ?_
   rintro e w3 ⟨rfl, h9⟩
   have HU3 := Ho (HU2.o.trans h9)
   have HA3 := Ho (HA2.o.up h9)
   clear h9
   dsimp only
   by_cases h2 : 16384 < z
   · have h2z : (16384 : Int) < (z : Int) := by omega
     have HE := Ho (show rv = ev (ad 1) by rw [← HR.o, if_pos h2]; rfl)
     have hgl : w3.cell? ⟨2, 0, none⟩ = _ := (HW.o.up HU3.o).ge.gl 1 (by decide)
     go_wp2
     go_ret
     rw [HE.o]
     exact ⟨rfl, HU3.o⟩
   · have h2z : ¬ (16384 : Int) < (z : Int) := by omega
     rw [if_neg h2] at HR
     have c0 := HA3.o.cell (i := 0) rfl
     go_wp2_with fail
     refine (isToken_walk m hm w3).mono ?_
     rintro e w5 ⟨rfl, h9⟩
     have HU5 := Ho (HU3.o.trans h9)
     have HA5 := Ho (HA3.o.up h9)
     clear h9
     dsimp only
     cases htk : tok m.data.toList with
     | false =>
      have HE := Ho (show rv = ev (ad 3) by rw [← HR.o, if_pos htk]; rfl)
      have hgl : w5.cell? ⟨3, 0, none⟩ = _ := (HW.o.up HU5.o).ge.gl 3 (by decide)
      go_wp2
      go_ret
      rw [HE.o]
      exact ⟨rfl, HU5.o⟩
     | true =>
      rw [if_neg (by rw [htk]; simp)] at HR
      clear htk c0
      have c1 := HA5.o.cell (i := 1) rfl
      go_wp2_with fail
      refine (isTarget_walk t ht w5).mono ?_
      rintro e w6 ⟨rfl, h9⟩
      have HU6 := Ho (HU5.o.trans h9)
      have HA6 := Ho (HA5.o.up h9)
      clear h9
      dsimp only
      cases htg : tgt t.data.toList with
      | false =>
       have HE := Ho (show rv = ev (ad 3) by rw [← HR.o, if_pos htg]; rfl)
       have hgl : w6.cell? ⟨3, 0, none⟩ = _ := (HW.o.up HU6.o).ge.gl 3 (by decide)
       go_wp2
       go_ret
       rw [HE.o]
       exact ⟨rfl, HU6.o⟩
      | true =>
       rw [if_neg (by rw [htg]; simp)] at HR
       clear htg c1
       have c0 := HA6.o.cell (i := 0) rfl
       go_wp2_with fail
       refine (isKnownMethod_walk m w6 (HW.o.up HU6.o).mt).mono ?_
       rintro e w7 ⟨rfl, h9⟩
       have HU7 := Ho (HU6.o.trans h9)
       have HA7 := Ho (HA6.o.up h9)
       clear h9
       dsimp only
       cases hmt : mtk m with
       | false =>
        have HE := Ho (show rv = ev (ad 10) by rw [← HR.o, if_pos hmt]; rfl)
        have hgl : w7.cell? ⟨4, 0, none⟩ = _ := (HW.o.up HU7.o).ge.gl 10 (by decide)
        go_wp2
        go_ret
        rw [HE.o]
        exact ⟨rfl, HU7.o⟩
       | true =>
        rw [if_neg (by rw [hmt]; simp)] at HR
        clear hmt c0
        have c2 := HA7.o.cell (i := 2) rfl
        go_wp2_with fail
        refine (isMinor_walk mi w7).mono ?_
        rintro e w8 ⟨rfl, h9⟩
        obtain rfl := h9.symm
        clear h9
        dsimp only
        cases hmn : mnr mi with
        | false =>
         have HE := Ho (show rv = ev (ad 4) by rw [← HR.o, if_pos hmn]; rfl)
         have hgl : w7.cell? ⟨5, 0, none⟩ = _ := (HW.o.up HU7.o).ge.gl 4 (by decide)
         go_wp2
         go_ret
         rw [HE.o]
         exact ⟨rfl, HU7.o⟩
        | true =>
         rw [if_neg (by rw [hmn]; simp)] at HR
         clear hmn c2
         go_wp2_with fail
         refine (HCf.o w7 (HF.o.up HU7.o) (HW.o.up HU7.o).ge).mono ?_
         rintro e w9 ⟨rfl, h9⟩
         have HU9 := Ho (HU7.o.trans h9)
         have HA9 := Ho (HA7.o.up h9)
         clear h9
         dsimp only
         cases hcf : ckf fs with
         | some k =>
          have HE := Ho (show rv = ev (ad k) by rw [← HR.o, hcf]; rfl)
          rw [show eoV ad (some k) = ev (ad k) from rfl]
          have hne := ev_neq ad k
          go_wp2
          go_ret
          rw [HE.o]
          exact ⟨rfl, HU9.o⟩
         | none =>
          rw [hcf] at HR
          rw [show eoV ad none = Value.nilIface from rfl]
          clear hcf
          have c2 := HA9.o.cell (i := 2) rfl
          go_wp2_with fail
          refine (checkHost_walk ad a fs c mi w9 (HF.o.up HU9.o) (by omega) (fun f hf => by have := HMe.o f hf; omega) (HW.o.up HU9.o).ge (HW.o.up HU9.o).kd).mono ?_
          rintro e w10 ⟨rfl, h9⟩
          have HU10 := Ho (HU9.o.trans h9)
          have HA10 := Ho (HA9.o.up h9)
          clear h9
          dsimp only
          cases hch : ckh fs mi with
          | some k =>
           have HE := Ho (show rv = ev (ad k) by rw [← HR.o, hch]; rfl)
           rw [show eoV ad (some k) = ev (ad k) from rfl]
           have hne := ev_neq ad k
           go_wp2
           go_ret
           rw [HE.o]
           exact ⟨rfl, HU10.o⟩
          | none =>
           rw [hch] at HR
           rw [show eoV ad none = Value.nilIface from rfl]
           clear hch c2
           have c4 := HA10.o.cell (i := 4) rfl
           by_cases hbl : 1048576 < nb
           · have hblz : (1048576 : Int) < (nb : Int) := by omega
             have HE := Ho (show rv = ev (ad 7) by rw [← HR.o, if_pos hbl]; rfl)
             have hgl : w10.cell? ⟨6, 0, none⟩ = _ := (HW.o.up HU10.o).ge.gl 7 (by decide)
             go_wp2
             go_ret
             rw [HE.o]
             exact ⟨rfl, HU10.o⟩
           · have hblz : ¬ (1048576 : Int) < (nb : Int) := by omega
             have HE := Ho (show rv = .nilIface by rw [← HR.o, if_neg hbl]; rfl)
             go_wp2
             go_ret
             rw [HE.o]
             exact ⟨rfl, HU10.o⟩
end Go.Proofs.YtkaoalcffgnfeaaGreatDoor
namespace Go.Proofs.YtkaoalcffgnfeaaGreatDoor
open Go.RowKit Go.Shelf TextNum
def frF (fs : List FD) (n : Nat) : List FD := if 0 < n then pfs fs ++ [lnf n] else pfs fs
def frS (m t : ByteArray) (mi : Int) : List UInt8 := m.data.toList ++ [32] ++ t.data.toList ++ [32] ++ vtx mi
def frQ (m t : ByteArray) (mi : Int) (fs : List FD) (bd : List UInt8) : Er (List UInt8) := match ckq m t mi (frF fs bd.length) bd.length with
 | some k => .error k
 | none => .ok (prt (frS m t mi) (frF fs bd.length) bd)
def FrR (w w' : World) (e : Ending) : Er (List UInt8) → Prop
 | .error k => e = .returned (.tuple #[.slice none 0 0, .int .i64 (nums k)])
 | .ok l => ∃ a c, e = .returned (.tuple #[.slice a l.length c, .int .i64 0]) ∧ Hd (Ow w' w.heap.size (.slice a l.length c) l)
theorem ckf_lt {fs : List FD} {k : Nat} (h : ckf fs = some k) : k < 12 := by
 unfold ckf at h
 split at h
 · cases h; decide
 · split at h
   · cases h; decide
   · cases h
theorem ckh_lt {fs : List FD} {mi : Int} {k : Nat} (h : ckh fs mi = some k) : k < 12 := by
 unfold ckh at h
 split at h
 · cases h; decide
 · split at h
   · cases h; decide
   · cases h
theorem ckq_lt {m t : ByteArray} {mi : Int} {fs : List FD} {nb k : Nat} (h : ckq m t mi fs nb = some k) : k < 12 := by
 unfold ckq at h
 repeat' split at h
 all_goals first
  | (cases h; done)
  | (injection h with h; subst h; decide)
  | (injection h with h; subst h; first | exact ckf_lt (by assumption) | exact ckh_lt (by assumption))
theorem ckq_ok {m t : ByteArray} {mi : Int} {fs : List FD} {nb : Nat} (h : ckq m t mi fs nb = none) : m.size + 1 + t.size + 1 + (vtx mi).length ≤ 8000 ∧ szs fs ≤ 16384 ∧ nb ≤ 1048576 := by
 unfold ckq at h
 repeat' split at h
 all_goals first
  | (cases h; done)
  | (refine ⟨?_, ?_, ?_⟩ <;> omega)
theorem szs_frF (fs : List FD) (n : Nat) (h : n ≤ 1099511627776) : szs (frF fs n) ≤ szs fs + 128 := by
 have h1 := szs_pfs fs
 unfold frF
 split
 · rw [szs_snoc]
   have h2 : szf (lnf n) ≤ 128 := by
    have h3 := itoa_len (n : Int) (by omega) (by omega)
    have h4 : (⟨(Go.Lib.itoa (n : Int)).toArray⟩ : ByteArray).size = (Go.Lib.itoa (n : Int)).length := by simp [ByteArray.size]
    have h5 : ctlN.size = 14 := rfl
    unfold szf lnf
    dsimp only
    omega
   omega
 · omega
set_option maxRecDepth 100000 in
set_option maxHeartbeats 4000000 in
theorem FormatRequest_walk (ad : Nat → Addr) (m t : ByteArray) (mi : Int) (a : Option Addr) (fs : List FD) (c : Nat) (ab : Option Addr) (nb cb' : Nat) (bd : List UInt8) (cl : Bool) (w : World) (h : FdL w a fs c) (hb : Sb w (.slice ab nb cb') bd) (hG : GW w ad) (hm : m.size ≤ 1099511627776) (ht : t.size ≤ 1099511627776)
 (hm0 : -9223372036854775808 ≤ mi) (hm1 : mi ≤ 9223372036854775807) (hl : szs fs ≤ 1099511627000) (hnb : nb ≤ 1099511627776) :
 Calls Tryz.prog 12 #[.agg #[.string m, .string t, .int .i64 mi, .slice a fs.length c, .slice ab nb cb', .bool cl]] w fun e w' => FrR w w' e (frQ m t mi fs bd) ∧ Up w w' := by
 have HF := Ho h
 have HW := Ho hG
 have HB := Ho hb
 have hcap := h.cap
 obtain ⟨hbn, hbc, hbm⟩ := hb.len
 unfold maxLen at hbm
 have HBn := Ho hbn
 clear h hG hb hbn
 have HVl := Ho (vtx_len mi hm0 hm1)
 have HVz0 : (⟨(vtx mi).toArray⟩ : ByteArray).size = (vtx mi).length := by simp [ByteArray.size]
 have HVx := Ho (show vs (vtx mi) = .string ⟨(vtx mi).toArray⟩ from rfl)
 have HVd0 : (⟨(vtx mi).toArray⟩ : ByteArray).data.toList = vtx mi := rfl
 generalize (⟨(vtx mi).toArray⟩ : ByteArray) = vt at HVx HVz0 HVd0
 have HVd := Ho HVd0
 obtain ⟨vl, hvln⟩ := ny ((vtx mi).length)
 rw [hvln] at HVz0 HVl
 have HVz := Ho HVz0
 have HVn := Ho hvln
 clear HVz0 HVd0 hvln
 have hsl := szs_len fs
 have hpl := pfs_len fs
 have HZf := Ho (szs_frF fs nb hnb)
 have HA0 := Ho (at_new w 36 [.string m, .string t, .int .i64 mi, .slice a fs.length c, .slice ab nb cb', .bool cl])
 have HS1 := Ho (show w.heap.size < w.heap.size + 1 by omega)
 have HU0 := Ho ((Up.refl w).alloc (.cells [.string m, .string t, .int .i64 mi, .slice a fs.length c, .slice ab nb cb', .bool cl].toArray 36))
 obtain ⟨rv, hrv⟩ := ny (frQ m t mi fs bd)
 have HR := Ho hrv
 rw [hrv]
 clear hrv
 go_enter Tryz.func12, Tryz.ntmps12
 go_wp2_with (with_reducible refine sL 34 ?_)
 show wpList _ _ _ _ _ _
 obtain ⟨w1, hw1⟩ := ny (w.alloc (.cells [.string m, .string t, .int .i64 mi, .slice a fs.length c, .slice ab nb cb', .bool cl].toArray 36))
 have HS1 := Ho (show w.heap.size < w1.heap.size by rw [← hw1, alloc_size]; omega)
 rw [hw1] at HA0 HU0
 change wpList _ _ _ _ _ (w.alloc (.cells [.string m, .string t, .int .i64 mi, .slice a fs.length c, .slice ab nb cb', .bool cl].toArray 36))
 rw [hw1]
 clear hw1
 have c3 := HA0.o.cell (i := 3) rfl
 go_wp2_with fail
 refine (printedFields_walk a fs c w1 (HF.o.up HU0.o) (by omega) (HW.o.up HU0.o).kd).mono ?_
 rintro e w2 ⟨⟨a2, c2, rfl, hO2⟩, h9⟩
 have HU2 := Ho (HU0.o.trans h9)
 have HA2 := Ho (HA0.o.up h9)
 have HO2 := Ho hO2.o
 have HW1 := Ho h9
 clear h9 hO2 c3
 dsimp only
 have c4 := HA2.o.cell (i := 4) rfl
 by_cases hb0 : 0 < nb
 · have hb0z : (0 : Int) < (nb : Int) := by omega
   have HFr0 : frF fs nb = pfs fs ++ [lnf nb] := by unfold frF; rw [if_pos hb0]
   obtain ⟨np, hnp⟩ := ny ((pfs fs).length)
   have HNp := Ho hnp
   rw [hnp] at hpl ⊢
   clear hnp
   go_wp2_with fail
   refine (lengthOf_walk ab nb cb' hnb w2 (HW.o.up HU2.o).gn).mono ?_
   rintro e w3 ⟨rfl, h9⟩
   have HU3 := Ho (HU2.o.trans h9)
   have HA3 := Ho (HA2.o.up h9)
   have Hu3 := Ho h9
   clear h9
   dsimp only
   go_wp2_with (with_reducible refine sA ?_)
   show wpList _ _ _ _ _ _
   refine wpList_appFd (w := w3) (N := w1.heap.size) rfl _ _ rfl a2 c2 (pfs fs) (lnf nb) HNp.o rfl rfl (ow_up HO2.o Hu3.o) (Nat.le_trans HW1.o.size Hu3.o.size) (by omega) ?_
   intro a4 c4' w4 o4 u4 g4
   have HA4 := Ho (HA3.o.by g4 (fun e => by
    have h1 := ow_up HO2.o Hu3.o
    unfold FdO at h1
    rw [HNp.o] at h1
    have h2 := (World.ownsRow.lt h1 w.heap.size e).1
    have h3 := HS1.o
    omega))
   have hu4 := u4 w1 (HW1.o.trans Hu3.o) (Nat.le_refl _)
   have HU4 := Ho (HU0.o.trans hu4)
   have hZ := HZf.o
   rw [HFr0] at hZ
   have HFr := Ho HFr0
   have HNF0 : (pfs fs ++ [lnf nb]).length = np + 1 := by rw [List.length_append, HNp.o]; rfl
   have HF4 := Ho o4.fdl
   clear o4 u4 g4 hu4 HFr0 c4
   generalize pfs fs ++ [lnf nb] = F at HF4 HFr HNF0 hZ
   rw [← HNF0]
   clear HNF0
   have hFz : szs F ≤ 1099511627776 := by omega
   clear hZ
   simp only [Act.put, pB, pC, pD]
   obtain ⟨nF, hnF⟩ := ny F.length
   have HNF := Ho hnF
   have hnFc := HF4.o.cap
   have HCk := Ho (checkRequest_walk ad m t mi a fs.length c ab nb cb' cl a4 F c4' w4 HF4.o (HW.o.up HU4.o) hm ht hm0 hm1 hFz hnb)
   have HPm := Ho (fun (st : ByteArray) (w7 : World) (h1 : FdL w7 a4 F c4') (h2 : Sb w7 (.slice ab nb cb') bd) h3 h4 h5 => printMessage_walk st a4 F c4' ab nb cb' bd w7 h1 h2 h3 h4 h5)
   rw [hnF] at HCk HPm hnFc ⊢
   clear hnF
   go_wp2_with (with_reducible refine sL 36 ?_)
   show wpList _ _ _ _ _ _
   refine wpList_load_mid rfl _ _ rfl w.heap.size 0 rfl [.string m, .string t, .int .i64 mi, .slice a fs.length c, .slice ab nb cb', .bool cl] _ HA4.o.range Tryz.underlying36 rfl (by kernel_rfl) ?_
   simp only [Act.put, pB, pC, pD]
   go_wp2_with fail
   refine HCk.o.mono ?_
   rintro e w6 ⟨rfl, h9⟩
   have HU6 := Ho (HU4.o.trans h9)
   have HA6 := Ho (HA4.o.up h9)
   have HF6 := Ho (HF4.o.up h9)
   clear h9
   dsimp only
   cases hck : ckq m t mi F nb with
   | some k =>
    have HE := Ho (show rv = .error k by rw [← HR.o]; unfold frQ; rw [← HBn.o, HFr.o, hck])
    have hk := ckq_lt hck
    rw [show eoV ad (some k) = ev (ad k) from rfl]
    have hne := ev_neq ad k
    clear hck
    go_wp2_with fail
    refine (numberOf_err ad k hk w6 (HW.o.up HU6.o).ge).mono ?_
    rintro e w7 ⟨rfl, h9⟩
    have HU7 := Ho (HU6.o.trans h9)
    clear h9
    dsimp only
    go_wp2
    go_ret2
    rw [HE.o]
    exact ⟨rfl, HU7.o⟩
   | none =>
    have HE := Ho (show rv = .ok (prt (frS m t mi) F bd) by rw [← HR.o]; unfold frQ; rw [← HBn.o, HFr.o, hck])
    obtain ⟨hq1, hq2, hq3⟩ := ckq_ok hck
    rw [show eoV ad none = Value.nilIface from rfl]
    have hvl := HVl.o
    have HSt := Ho (show (m ++ (⟨#[32]⟩ : ByteArray) ++ t ++ (⟨#[32]⟩ : ByteArray) ++ vt).data.toList = frS m t mi by rw [bat_app, bat_app, bat_app, bat_app]; unfold frS; rw [HVd.o])
    have hsz : (m ++ (⟨#[32]⟩ : ByteArray) ++ t ++ (⟨#[32]⟩ : ByteArray) ++ vt).size ≤ 1048576 := by
     rw [Go.Lib.size_eq, HSt.o]
     unfold frS
     simp only [List.length_append, List.length_cons, List.length_nil]
     rw [← Go.Lib.size_eq, ← Go.Lib.size_eq]
     omega
    have HPm := Ho (fun w7 h1 h2 => HPm.o (m ++ (⟨#[32]⟩ : ByteArray) ++ t ++ (⟨#[32]⟩ : ByteArray) ++ vt) w7 h1 h2 hsz (by omega) (by rw [← HBn.o]; exact hq3))
    rw [HSt.o] at HPm
    clear hsz HSt
    obtain ⟨L, hL⟩ := ny ((prt (frS m t mi) F bd).length)
    have HL := Ho hL
    rw [hL] at HPm
    clear hL hck
    have hvl2 : (vtx mi).length = vl := HVn.o
    rw [hvl2] at hq1
    have hl1 : ¬ 9223372036854775807 < m.size + 1 := by omega
    have hl2 : ¬ 9223372036854775807 < m.size + 1 + t.size := by omega
    have hl3 : ¬ 9223372036854775807 < m.size + 1 + t.size + 1 := by omega
    have hl4 : ¬ 9223372036854775807 < m.size + 1 + t.size + 1 + vl := by omega
    go_wp2
    refine wp_region_held_drew (S := fun w2 => At w2 w.heap.size 36 [.string m, .string t, .int .i64 mi, .slice a fs.length c, .slice ab nb cb', .bool cl] ∧ GW w2 ad ∧ Up w w2) (by kernel_rfl) ⟨HA6.o.up (Up.refl _).drew, (HW.o.up HU6.o).up (Up.refl _).drew, HU6.o.drew⟩ (fun hS => ?_)
    refine tN 0 (some 26) (.fieldAddr 36 (.tmp 1) 0) 0 (.pointer (some ⟨w.heap.size, 0, none⟩)) hS ?_
    simp only [pA, pB, pC, pD]
    refine tK 1 (some 27) (.load 9 (.tmp 26)) 9 (.string m) hS ?_ ?_
    · intro _ _ w5 hSw
      have h0 := hSw.1.cell (i := 0) rfl
      clear hSw hS
      go_simp
    simp only [pA, pB, pC, pD]
    refine tN 2 (some 28) (.binOp .add 9 (.tmp 27) (.const (.string { data := #[32] })) 9) 9 (.string (m ++ (⟨#[32]⟩ : ByteArray))) hS ?_
    simp only [pA, pB, pC, pD]
    refine tN 3 (some 29) (.fieldAddr 36 (.tmp 1) 1) 0 (.pointer (some ⟨w.heap.size, 1, none⟩)) hS ?_
    simp only [pA, pB, pC, pD]
    refine tK 4 (some 30) (.load 9 (.tmp 29)) 9 (.string t) hS ?_ ?_
    · intro _ _ w5 hSw
      have h0 := hSw.1.cell (i := 1) rfl
      clear hSw hS
      go_simp
    simp only [pA, pB, pC, pD]
    refine tN 5 (some 31) (.binOp .add 9 (.tmp 28) (.tmp 30) 9) 9 (.string (m ++ (⟨#[32]⟩ : ByteArray) ++ t)) hS ?_
    simp only [pA, pB, pC, pD]
    refine tN 6 (some 32) (.binOp .add 9 (.tmp 31) (.const (.string { data := #[32] })) 9) 9 (.string (m ++ (⟨#[32]⟩ : ByteArray) ++ t ++ (⟨#[32]⟩ : ByteArray))) hS ?_
    simp only [pA, pB, pC, pD]
    refine tN 7 (some 33) (.fieldAddr 36 (.tmp 1) 2) 0 (.pointer (some ⟨w.heap.size, 2, none⟩)) hS ?_
    simp only [pA, pB, pC, pD]
    refine tK 8 (some 34) (.load 3 (.tmp 33)) 3 (.int .i64 mi) hS ?_ ?_
    · intro _ _ w5 hSw
      have h0 := hSw.1.cell (i := 2) rfl
      clear hSw hS
      go_simp
    simp only [pA, pB, pC, pD]
    refine tN 11 (some 37) (.move (.tmp 4)) 34 (.slice a4 nF c4') hS ?_
    simp only [pA, pB, pC, pD]
    refine tN 12 (some 38) (.fieldAddr 36 (.tmp 1) 4) 0 (.pointer (some ⟨w.heap.size, 4, none⟩)) hS ?_
    simp only [pA, pB, pC, pD]
    refine tK 13 (some 39) (.load 23 (.tmp 38)) 23 (.slice ab nb cb') hS ?_ ?_
    · intro _ _ w5 hSw
      have h0 := hSw.1.cell (i := 4) rfl
      clear hSw hS
      go_simp
    simp only [pA, pB, pC, pD]
    refine rD 9 (some 35) (.call ⟨.value (.func 44), #[.tmp 34], #[3]⟩) 9 fun _ _ K hK => ?_
    rw [if_pos (by kernel_rfl)]
    go_simp
    refine (versionText_walk mi hm0 hm1 w6.drew ((HW.o.up HU6.o).up (Up.refl _).drew).gn).mono ?_
    rintro e w7 ⟨rfl, h9⟩
    have HU7 := Ho (HU6.o.drew.trans h9)
    have HA7 := Ho ((HA6.o.up (Up.refl _).drew).up h9)
    have HF7 := Ho ((HF6.o.up (Up.refl _).drew).up h9)
    clear h9 hS
    rw [HVx.o]
    dsimp only
    refine hK.out _ _ ⟨HA7.o, HW.o.up HU7.o, HU7.o⟩ (fun hS => ?_)
    clear hK K
    refine tK 10 (some 36) (.binOp .add 9 (.tmp 32) (.tmp 35) 9) 9 (.string (m ++ (⟨#[32]⟩ : ByteArray) ++ t ++ (⟨#[32]⟩ : ByteArray) ++ vt)) hS ?_ ?_
    · intro _ _ w5 hSw
      clear hSw hS
      have hvz := HVz.o
      go_simp
    simp only [Act.put, pB, pC, pD]
    refine rD 14 (some 40) (.call ⟨.value (.func 43), #[.tmp 36, .tmp 37, .tmp 39], #[9, 34, 23]⟩) 23 fun _ _ K hK => ?_
    rw [if_pos (by kernel_rfl)]
    go_simp
    refine (HPm.o w7 HF7.o (HB.o.up HU7.o)).mono ?_
    rintro e w8 ⟨⟨a8, c8, rfl, hO8⟩, h9⟩
    have HU8 := Ho (HU7.o.trans h9)
    have HA8 := Ho (HA7.o.up h9)
    have HO8 := Ho (show Ow w8 w.heap.size _ _ from ow_base hO8.o HU7.o.size)
    clear h9 hS hO8
    dsimp only
    refine hK.out _ _ ⟨HA8.o, HW.o.up HU8.o, HU8.o⟩ (fun hS => ?_)
    clear hK K
    refine tN 15 (some 2) (.assign (.tmp 40)) 23 (.slice a8 L c8) hS ?_
    simp only [Act.put, pB, pC, pD]
    refine tN 16 (some 3) (.assign (.const (.int .i64 0))) 37 (.int .i64 0) hS ?_
    simp only [pA, pB, pC, pD]
    clear hS
    refine wpAnyH_done (by kernel_rfl) ?_ _
    go_wp2
    go_ret2
    rw [HE.o]
    exact ⟨⟨a8, c8, by rw [HL.o]; rfl, Ho (by rw [HL.o]; exact HO8.o)⟩, HU8.o⟩
 · have hb0z : ¬ (0 : Int) < (nb : Int) := by omega
   have HFr := Ho (show frF fs nb = pfs fs by unfold frF; rw [if_neg hb0])
   have HF4 := Ho HO2.o.fdl
   have hZ := HZf.o
   rw [HFr.o] at hZ
   generalize pfs fs = F at HF4 HFr hZ ⊢
   have hFz : szs F ≤ 1099511627776 := by omega
   clear hZ
   obtain ⟨nF, hnF⟩ := ny F.length
   have HNF := Ho hnF
   have hnFc := HF4.o.cap
   have HCk := Ho (checkRequest_walk ad m t mi a fs.length c ab nb cb' cl a2 F c2 w2 HF4.o (HW.o.up HU2.o) hm ht hm0 hm1 hFz hnb)
   have HPm := Ho (fun (st : ByteArray) (w7 : World) (h1 : FdL w7 a2 F c2) (h2 : Sb w7 (.slice ab nb cb') bd) h3 h4 h5 => printMessage_walk st a2 F c2 ab nb cb' bd w7 h1 h2 h3 h4 h5)
   rw [hnF] at HCk HPm hnFc ⊢
   clear hnF
   go_wp2_with (with_reducible refine sL 36 ?_)
   show wpList _ _ _ _ _ _
   refine wpList_load_mid rfl _ _ rfl w.heap.size 0 rfl [.string m, .string t, .int .i64 mi, .slice a fs.length c, .slice ab nb cb', .bool cl] _ HA2.o.range Tryz.underlying36 rfl (by kernel_rfl) ?_
   simp only [Act.put, pB, pC, pD]
   go_wp2_with fail
   refine HCk.o.mono ?_
   rintro e w6 ⟨rfl, h9⟩
   have HU6 := Ho (HU2.o.trans h9)
   have HA6 := Ho (HA2.o.up h9)
   have HF6 := Ho (HF4.o.up h9)
   clear h9
   dsimp only
   cases hck : ckq m t mi F nb with
   | some k =>
    have HE := Ho (show rv = .error k by rw [← HR.o]; unfold frQ; rw [← HBn.o, HFr.o, hck])
    have hk := ckq_lt hck
    rw [show eoV ad (some k) = ev (ad k) from rfl]
    have hne := ev_neq ad k
    clear hck
    go_wp2_with fail
    refine (numberOf_err ad k hk w6 (HW.o.up HU6.o).ge).mono ?_
    rintro e w7 ⟨rfl, h9⟩
    have HU7 := Ho (HU6.o.trans h9)
    clear h9
    dsimp only
    go_wp2
    go_ret2
    rw [HE.o]
    exact ⟨rfl, HU7.o⟩
   | none =>
    have HE := Ho (show rv = .ok (prt (frS m t mi) F bd) by rw [← HR.o]; unfold frQ; rw [← HBn.o, HFr.o, hck])
    obtain ⟨hq1, hq2, hq3⟩ := ckq_ok hck
    rw [show eoV ad none = Value.nilIface from rfl]
    have hvl := HVl.o
    have HSt := Ho (show (m ++ (⟨#[32]⟩ : ByteArray) ++ t ++ (⟨#[32]⟩ : ByteArray) ++ vt).data.toList = frS m t mi by rw [bat_app, bat_app, bat_app, bat_app]; unfold frS; rw [HVd.o])
    have hsz : (m ++ (⟨#[32]⟩ : ByteArray) ++ t ++ (⟨#[32]⟩ : ByteArray) ++ vt).size ≤ 1048576 := by
     rw [Go.Lib.size_eq, HSt.o]
     unfold frS
     simp only [List.length_append, List.length_cons, List.length_nil]
     rw [← Go.Lib.size_eq, ← Go.Lib.size_eq]
     omega
    have HPm := Ho (fun w7 h1 h2 => HPm.o (m ++ (⟨#[32]⟩ : ByteArray) ++ t ++ (⟨#[32]⟩ : ByteArray) ++ vt) w7 h1 h2 hsz (by omega) (by rw [← HBn.o]; exact hq3))
    rw [HSt.o] at HPm
    clear hsz HSt
    obtain ⟨L, hL⟩ := ny ((prt (frS m t mi) F bd).length)
    have HL := Ho hL
    rw [hL] at HPm
    clear hL hck
    have hvl2 : (vtx mi).length = vl := HVn.o
    rw [hvl2] at hq1
    have hl1 : ¬ 9223372036854775807 < m.size + 1 := by omega
    have hl2 : ¬ 9223372036854775807 < m.size + 1 + t.size := by omega
    have hl3 : ¬ 9223372036854775807 < m.size + 1 + t.size + 1 := by omega
    have hl4 : ¬ 9223372036854775807 < m.size + 1 + t.size + 1 + vl := by omega
    go_wp2
    refine wp_region_held_drew (S := fun w2 => At w2 w.heap.size 36 [.string m, .string t, .int .i64 mi, .slice a fs.length c, .slice ab nb cb', .bool cl] ∧ GW w2 ad ∧ Up w w2) (by kernel_rfl) ⟨HA6.o.up (Up.refl _).drew, (HW.o.up HU6.o).up (Up.refl _).drew, HU6.o.drew⟩ (fun hS => ?_)
    refine tN 0 (some 26) (.fieldAddr 36 (.tmp 1) 0) 0 (.pointer (some ⟨w.heap.size, 0, none⟩)) hS ?_
    simp only [pA, pB, pC, pD]
    refine tK 1 (some 27) (.load 9 (.tmp 26)) 9 (.string m) hS ?_ ?_
    · intro _ _ w5 hSw
      have h0 := hSw.1.cell (i := 0) rfl
      clear hSw hS
      go_simp
    simp only [pA, pB, pC, pD]
    refine tN 2 (some 28) (.binOp .add 9 (.tmp 27) (.const (.string { data := #[32] })) 9) 9 (.string (m ++ (⟨#[32]⟩ : ByteArray))) hS ?_
    simp only [pA, pB, pC, pD]
    refine tN 3 (some 29) (.fieldAddr 36 (.tmp 1) 1) 0 (.pointer (some ⟨w.heap.size, 1, none⟩)) hS ?_
    simp only [pA, pB, pC, pD]
    refine tK 4 (some 30) (.load 9 (.tmp 29)) 9 (.string t) hS ?_ ?_
    · intro _ _ w5 hSw
      have h0 := hSw.1.cell (i := 1) rfl
      clear hSw hS
      go_simp
    simp only [pA, pB, pC, pD]
    refine tN 5 (some 31) (.binOp .add 9 (.tmp 28) (.tmp 30) 9) 9 (.string (m ++ (⟨#[32]⟩ : ByteArray) ++ t)) hS ?_
    simp only [pA, pB, pC, pD]
    refine tN 6 (some 32) (.binOp .add 9 (.tmp 31) (.const (.string { data := #[32] })) 9) 9 (.string (m ++ (⟨#[32]⟩ : ByteArray) ++ t ++ (⟨#[32]⟩ : ByteArray))) hS ?_
    simp only [pA, pB, pC, pD]
    refine tN 7 (some 33) (.fieldAddr 36 (.tmp 1) 2) 0 (.pointer (some ⟨w.heap.size, 2, none⟩)) hS ?_
    simp only [pA, pB, pC, pD]
    refine tK 8 (some 34) (.load 3 (.tmp 33)) 3 (.int .i64 mi) hS ?_ ?_
    · intro _ _ w5 hSw
      have h0 := hSw.1.cell (i := 2) rfl
      clear hSw hS
      go_simp
    simp only [pA, pB, pC, pD]
    refine tN 11 (some 37) (.move (.tmp 4)) 34 (.slice a2 nF c2) hS ?_
    simp only [pA, pB, pC, pD]
    refine tN 12 (some 38) (.fieldAddr 36 (.tmp 1) 4) 0 (.pointer (some ⟨w.heap.size, 4, none⟩)) hS ?_
    simp only [pA, pB, pC, pD]
    refine tK 13 (some 39) (.load 23 (.tmp 38)) 23 (.slice ab nb cb') hS ?_ ?_
    · intro _ _ w5 hSw
      have h0 := hSw.1.cell (i := 4) rfl
      clear hSw hS
      go_simp
    simp only [pA, pB, pC, pD]
    refine rD 9 (some 35) (.call ⟨.value (.func 44), #[.tmp 34], #[3]⟩) 9 fun _ _ K hK => ?_
    rw [if_pos (by kernel_rfl)]
    go_simp
    refine (versionText_walk mi hm0 hm1 w6.drew ((HW.o.up HU6.o).up (Up.refl _).drew).gn).mono ?_
    rintro e w7 ⟨rfl, h9⟩
    have HU7 := Ho (HU6.o.drew.trans h9)
    have HA7 := Ho ((HA6.o.up (Up.refl _).drew).up h9)
    have HF7 := Ho ((HF6.o.up (Up.refl _).drew).up h9)
    clear h9 hS
    rw [HVx.o]
    dsimp only
    refine hK.out _ _ ⟨HA7.o, HW.o.up HU7.o, HU7.o⟩ (fun hS => ?_)
    clear hK K
    refine tK 10 (some 36) (.binOp .add 9 (.tmp 32) (.tmp 35) 9) 9 (.string (m ++ (⟨#[32]⟩ : ByteArray) ++ t ++ (⟨#[32]⟩ : ByteArray) ++ vt)) hS ?_ ?_
    · intro _ _ w5 hSw
      clear hSw hS
      have hvz := HVz.o
      go_simp
    simp only [Act.put, pB, pC, pD]
    refine rD 14 (some 40) (.call ⟨.value (.func 43), #[.tmp 36, .tmp 37, .tmp 39], #[9, 34, 23]⟩) 23 fun _ _ K hK => ?_
    rw [if_pos (by kernel_rfl)]
    go_simp
    refine (HPm.o w7 HF7.o (HB.o.up HU7.o)).mono ?_
    rintro e w8 ⟨⟨a8, c8, rfl, hO8⟩, h9⟩
    have HU8 := Ho (HU7.o.trans h9)
    have HA8 := Ho (HA7.o.up h9)
    have HO8 := Ho (show Ow w8 w.heap.size _ _ from ow_base hO8.o HU7.o.size)
    clear h9 hS hO8
    dsimp only
    refine hK.out _ _ ⟨HA8.o, HW.o.up HU8.o, HU8.o⟩ (fun hS => ?_)
    clear hK K
    refine tN 15 (some 2) (.assign (.tmp 40)) 23 (.slice a8 L c8) hS ?_
    simp only [Act.put, pB, pC, pD]
    refine tN 16 (some 3) (.assign (.const (.int .i64 0))) 37 (.int .i64 0) hS ?_
    simp only [pA, pB, pC, pD]
    clear hS
    refine wpAnyH_done (by kernel_rfl) ?_ _
    go_wp2
    go_ret2
    rw [HE.o]
    exact ⟨⟨a8, c8, by rw [HL.o]; rfl, Ho (by rw [HL.o]; exact HO8.o)⟩, HU8.o⟩
end Go.Proofs.YtkaoalcffgnfeaaGreatDoor
namespace Go.Proofs.YtkaoalcffgnfeaaGreatDoor
open Go.RowKit Go.Shelf TextNum
def blk (c : UInt8) : Bool := bks.data.toList.contains c
def tidy (v : List UInt8) : Prop := (∀ x, v.head? = some x → blk x = false) ∧ (∀ x, v.getLast? = some x → blk x = false)
theorem trm_def (v : List UInt8) : trm v = ((v.reverse.dropWhile blk).reverse).dropWhile blk := rfl
theorem dw_tidy {v : List UInt8} (h : ∀ x, v.head? = some x → blk x = false) : v.dropWhile blk = v := by
 cases v with
 | nil => rfl
 | cons x r =>
  rw [List.dropWhile_cons, h x rfl]
  rfl
theorem trm_id {v : List UInt8} (h : tidy v) : trm v = v := by
 rw [trm_def, dw_tidy (v := v.reverse) (by intro x hx; rw [List.head?_reverse] at hx; exact h.2 x hx), List.reverse_reverse, dw_tidy h.1]
end Go.Proofs.YtkaoalcffgnfeaaGreatDoor
namespace Go.Proofs.YtkaoalcffgnfeaaGreatDoor
open Go.RowKit Go.Shelf TextNum
theorem mnr_or {mi : Int} (h : mnr mi = true) : mi = 0 ∨ mi = 1 := by
 unfold mnr at h
 rw [Bool.or_eq_true] at h
 rcases h with h | h
 · exact .inl (by simpa using h)
 · exact .inr (by simpa using h)
theorem vtx_facts {mi : Int} (h : mnr mi = true) : vok (vtx mi) = true ∧ mno ⟨(vtx mi).toArray⟩ = .ok mi ∧ (10 : UInt8) ∉ vtx mi := by
 rcases mnr_or h with rfl | rfl
 · rw [show vtx 0 = [72, 84, 84, 80, 47, 49, 46, 48] by decide +kernel]
   exact ⟨by decide +kernel, by unfold mno; rw [if_pos (by decide +kernel)], by decide +kernel⟩
 · rw [show vtx 1 = [72, 84, 84, 80, 47, 49, 46, 49] by decide +kernel]
   exact ⟨by decide +kernel, by unfold mno; rw [if_neg (by decide +kernel), if_pos (by decide +kernel)], by decide +kernel⟩
end Go.Proofs.YtkaoalcffgnfeaaGreatDoor
