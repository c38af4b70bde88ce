import Derived.Test.YtehnnlhoajdcaaaGreatDoorMk
import Derived.WalkMore
namespace Go.Proofs.YtehnnlhoajdcaaaGreatDoor
open Go.RowKit Go.Shelf TextNum
structure GM (w : World) : Prop where
 ml : ∃ m, w.cell? ⟨18, 0, none⟩ = some (.int .i64 m)
theorem GM.up {w w' : World} (h : GM w) (k : Up w w') : GM w' := ⟨by obtain ⟨m, hc⟩ := h.ml; exact ⟨m, k.cell hc⟩⟩
def sps (v : ByteArray) : List ByteArray := Go.Lib.splitB ⟨#[44]⟩ 0 (Go.Lib.countB v ⟨#[44]⟩) v
theorem sps_len (v : ByteArray) : (sps v).length = Go.Lib.countB v ⟨#[44]⟩ + 1 := Go.Lib.splitB_all ⟨#[44]⟩ (Nat.le_refl 1) 0 _ v rfl
theorem sps_small (v : ByteArray) : ∀ x ∈ sps v, x.size ≤ v.size := by
 have key : ∀ (k : Nat) (v : ByteArray), ∀ x ∈ Go.Lib.splitB ⟨#[44]⟩ 0 k v, x.size ≤ v.size := by
  intro k
  induction k with
  | zero => intro v x hx; simp [Go.Lib.splitB] at hx; rw [hx]; exact Nat.le_refl _
  | succ k ih =>
   intro v x hx
   unfold Go.Lib.splitB at hx
   split at hx
   · simp at hx; rw [hx]; exact Nat.le_refl _
   simp only [List.mem_cons] at hx
   rcases hx with rfl | hx
   · rw [ByteArray.size_extract]; omega
   have := ih _ x hx
   rw [ByteArray.size_extract] at this
   omega
 exact key _ v
theorem Split_up (s : ByteArray) (hs : s.size ≤ 1048576) (w : World) (hG : GM w) : Calls Tryz.prog 154 #[.string s, .string ⟨#[44]⟩] w fun e w' => e = .returned (.slice (some ⟨w.heap.size, 0, none⟩) (sps s).length (sps s).length) ∧ Hd (∀ i (h : i < (sps s).length), w'.cell? ⟨w.heap.size, i, none⟩ = some (.string (sps s)[i])) ∧ Up w w' := by
 obtain ⟨m, hm⟩ := hG.ml
 refine (Any.strings_Split Tryz.lays146 (by kernel_rfl) s ⟨#[44]⟩ m w (by omega) hm (Nat.le_refl 1)).mono ?_
 rintro e w' ⟨rfl, rfl⟩
 refine ⟨by rw [sps_len], Ho (fun i hi => ?_), (Up.refl w).alloc _⟩
 rw [World.cell?_alloc_at _ _ _ _ rfl]
 rw [List.getElem?_toArray, List.getElem?_map]
 show Option.map Value.string (sps s)[i]? = _
 rw [List.getElem?_eq_getElem hi]
 rfl
def wcl : ByteArray := ⟨#[99, 108, 111, 115, 101]⟩
def wka : ByteArray := ⟨#[107, 101, 101, 112, 45, 97, 108, 105, 118, 101]⟩
def wrd (c : Bool) : List ByteArray → Bool × Bool
 | [] => (c, false)
 | x :: r => if (lws (trm x.data.toList) == lws wcl.data.toList) = true then (true, true) else wrd (if (lws (trm x.data.toList) == lws wka.data.toList) = true then false else c) r
def cls (c : Bool) : List FD → Bool
 | [] => c
 | f :: r => if (kdf f.n == 2) = true then (if (wrd c (sps f.v)).2 = true then true else cls (wrd c (sps f.v)).1 r) else cls c r
theorem exec_idxS {o : Oper} {ρ : Operand → Value} {x y : Operand} {w : World} {b n c : Nat} (i : Nat) (hi : i < n) (ho : o.op = .indexAddr 25 x y) (hx : ρ x = .slice (some ⟨b, 0, none⟩) n c) (hy : ρ y = .int .i64 (i : Int)) : (execOp ρ o).run Tryz.prog w = .ok (.value (.pointer (some ⟨b, i, none⟩))) w := by
 have hi' : (i : Int) < (n : Int) := by omega
 unfold execOp
 simp only [ho, hx, hy]
 go_simp
set_option maxRecDepth 100000 in
set_option maxHeartbeats 2000000 in
theorem closes_walk (a : Option Addr) (fs : List FD) (c : Nat) (minor : Int) (w : World) (h : FdL w a fs c) (hl : fs.length ≤ 1048576) (hs : ∀ f ∈ fs, f.v.size ≤ 1048576) (hK : w.rangeAt 13 0 kdC) (hM : GM w) :
  Calls Tryz.prog 120 #[.slice a fs.length c, .int .i64 minor] w fun e w' => e = .returned (.bool (cls (minor == 0) fs)) ∧ Up w w' := by
 have HF := Ho h
 have HS := Ho hs
 have HKd := Ho hK
 have HMl := Ho hM
 have hcap := h.cap
 clear h hs hK hM
 obtain ⟨rv, hrv⟩ := ny (cls (minor == 0) fs)
 have HR := Ho hrv
 rw [hrv]
 clear hrv
 generalize hmz : (minor == 0) = m0 at HR
 go_enter Tryz.func120, Tryz.ntmps120
 go_wp2
 go_step3
 go_wp2
 go_step3
 go_wp2
 go_loopw [5, 14] (fun v5 v14 wr => ∃ (i : Nat) (cl : Bool), v14 = .int .i64 (i : Int) ∧ v5 = .bool cl ∧ i ≤ fs.length ∧ Hd (Up w wr ∧ rv = cls cl (fs.drop i))) (fun _ v14 _ => fs.length - (intOf v14).toNat)
 case atStart => exact ⟨0, m0, rfl, by rw [← hmz], Nat.zero_le _, Ho ⟨Up.refl _, by rw [← HR.o]; rfl⟩⟩
 case round =>
  obtain ⟨i, cl, rfl, rfl, hi, hU⟩ := hrel
  have HU := Ho hU.o
  clear hU
  by_cases hil : i < fs.length
  · have hilz : (i : Int) < (fs.length : Int) := by omega
    obtain ⟨b, off, rfl, k1, k2⟩ := HF.o.cells i hil
    have HRg := Ho (range2 (HU.o.1.cell k1) (HU.o.1.cell k2))
    have HT := Ho (List.drop_eq_getElem_cons hil)
    have HMm := Ho (List.getElem_mem hil)
    obtain ⟨f, hf⟩ := ny (fs[i])
    rw [hf] at HRg HT HMm
    have hfs := HS.o _ HMm.o
    clear hf k1 k2
    go_wp2_with (with_reducible refine sI 36 ?_)
    show wpList _ _ _ _ _ _
    refine wpList_val7 (.pointer (some ⟨b, off + i * 2, none⟩)) rfl (exec_idxFd i hil rfl rfl rfl) ?_
    simp only [Act.put, pB, pC, pD]
    refine wpList_load_mid rfl _ _ rfl b (off + i * 2) rfl [.string f.n, .string f.v] _ HRg.o Tryz.underlying89 rfl infoFd2 ?_
    simp only [Act.put, pB, pC, pD]
    have HAt := Ho (at_new wr 89 [.string f.n, .string f.v])
    have HUa := Ho (HU.o.1.alloc (.cells [.string f.n, .string f.v].toArray 89))
    go_wp2_with (with_reducible refine sL 89 ?_)
    show wpList _ _ _ _ _ _
    refine wpList_load_mid rfl _ _ rfl wr.heap.size 0 rfl [.string f.n, .string f.v] _ HAt.o.range Tryz.underlying89 rfl infoFd2 ?_
    simp only [Act.put, pB, pC, pD]
    go_wp2_with fail
    refine (kindOf_walk f.n f.v _ (range_up HKd.o HUa.o)).mono ?_
    rintro e w5 ⟨rfl, u5⟩
    have HU5 := Ho (HUa.o.trans u5)
    have cv : w5.cell? ⟨wr.heap.size, 1, none⟩ = some (.string f.v) := (HAt.o.up u5).cell (i := 1) rfl
    clear u5 HAt HUa
    dsimp only
    cases hk2 : (kdf f.n == 2) with
    | false =>
     have hne : (kdf f.n != 2) = true := by rw [bne, hk2]; rfl
     have HN := Ho (show rv = cls cl (fs.drop (i + 1)) by rw [HU.o.2, HT.o, cls, if_neg (by rw [hk2]; simp)])
     clear hk2
     go_wp2
     go_roundw
     all_goals first
      | exact ⟨i + 1, cl, by go_num, rfl, by omega, Ho ⟨HU5.o, HN.o⟩⟩
      | (simp [intOf]; omega)
    | true =>
     have hne : (kdf f.n != 2) = false := by rw [bne, hk2]; rfl
     have HN := Ho (show rv = if (wrd cl (sps f.v)).2 = true then true else cls (wrd cl (sps f.v)).1 (fs.drop (i + 1)) by rw [HU.o.2, HT.o, cls, if_pos hk2])
     have hsm := sps_small f.v
     have HSm := Ho hsm
     clear hk2 hsm
     go_wp2_with fail
     refine (Split_up f.v hfs w5 (HMl.o.up HU5.o)).mono ?_
     rintro e w6 ⟨rfl, hc6, h9⟩
     have HU6 := Ho (HU5.o.trans h9)
     have HC6 := Ho hc6.o
     have hcn : (sps f.v).length ≤ 1048577 := by
      rw [sps_len]
      have := Go.Lib.countB_le ⟨#[44]⟩ (Nat.le_refl 1) f.v.size f.v (Nat.le_refl _)
      omega
     clear h9 hc6
     generalize sps f.v = ws at *
     obtain ⟨n, hn⟩ := ny ws.length
     have HNn := Ho hn
     rw [hn] at hcn ⊢
     clear hn
     dsimp only
     go_wp2
     go_loopw [5, 25] (fun v5 v25 wq => ∃ (j : Nat) (cj : Bool), v25 = .int .i64 (j : Int) ∧ v5 = .bool cj ∧ j ≤ n ∧ Hd (Up w6 wq ∧ wrd cl ws = wrd cj (ws.drop j))) (fun _ v25 _ => n - (intOf v25).toNat)
     case atStart => exact ⟨0, cl, rfl, rfl, Nat.zero_le _, Ho ⟨Up.refl _, rfl⟩⟩
     case round =>
      obtain ⟨j, cj, rfl, rfl, hj, hV⟩ := hrel
      have HV := Ho hV.o
      clear hV
      by_cases hjl : j < n
      · have hjlz : (j : Int) < (n : Int) := by omega
        have hjw : j < ws.length := by rw [HNn.o]; exact hjl
        have HTj := Ho (List.drop_eq_getElem_cons hjw)
        have hcell := HV.o.1.cell (HC6.o j hjw)
        have hxs := HSm.o _ (List.getElem_mem hjw)
        obtain ⟨x, hx⟩ := ny (ws[j])
        rw [hx] at HTj hcell hxs
        clear hx hjw
        have HTr := Ho (trim_walk x (by omega) wr)
        go_wp2_with (with_reducible refine sI 25 ?_)
        show wpList _ _ _ _ _ _
        refine wpList_val7 (.pointer (some ⟨w5.heap.size, j, none⟩)) rfl (exec_idxS j hjl rfl rfl rfl) ?_
        simp only [Act.put, pB, pC, pD]
        go_wp2_with fail
        refine HTr.o.mono ?_
        rintro e w7 ⟨rfl, h9⟩
        have HV7 := Ho (HV.o.1.trans h9)
        clear h9 hcell HTr
        have HL := Ho (trm_len x.data.toList)
        obtain ⟨y, hy⟩ := ny (⟨(trm x.data.toList).toArray⟩ : ByteArray)
        have hyd : trm x.data.toList = y.data.toList := by rw [← hy]
        rw [hyd] at HL ⊢
        have hys : y.size ≤ 1048576 := by
         have := HL.o
         rw [← Go.Lib.size_eq, ← Go.Lib.size_eq] at this
         omega
        have HW := Ho (show wrd cl ws = if (lws y.data.toList == lws wcl.data.toList) = true then (true, true) else wrd (if (lws y.data.toList == lws wka.data.toList) = true then false else cj) (ws.drop (j + 1)) by
         rw [HV.o.2, HTj.o, wrd, hyd])
        rw [vs_data']
        clear hy hyd HL
        dsimp only
        have HS1 := Ho (sameWord_walk y wcl w7 (by omega))
        unfold wcl at HS1 HW
        cases h1 : (lws y.data.toList == lws (⟨#[99, 108, 111, 115, 101]⟩ : ByteArray).data.toList) with
        | true =>
         rw [h1] at HS1
         have HE := Ho (show rv = true by rw [HN.o, HW.o, if_pos h1, if_pos rfl])
         clear h1
         go_wp2_with fail
         refine HS1.o.mono ?_
         rintro e w8 ⟨rfl, h9⟩
         have HU8 := Ho (HU6.o.trans (HV7.o.trans h9))
         clear h9
         dsimp only
         go_wp2
         try rw [Exit.noGoto_ret]
         go_ret
         rw [HE.o]
         exact ⟨rfl, HU8.o⟩
        | false =>
         rw [h1] at HS1
         have HW2 := Ho (show wrd cl ws = wrd (if (lws y.data.toList == lws wka.data.toList) = true then false else cj) (ws.drop (j + 1)) by rw [HW.o, if_neg (by rw [h1]; simp)])
         clear h1
         go_wp2_with fail
         refine HS1.o.mono ?_
         rintro e w8 ⟨rfl, h9⟩
         have HV8 := Ho (HV7.o.trans h9)
         clear h9
         dsimp only
         have HS2 := Ho (sameWord_walk y wka w8 (by omega))
         unfold wka at HS2 HW2
         cases h2 : (lws y.data.toList == lws (⟨#[107, 101, 101, 112, 45, 97, 108, 105, 118, 101]⟩ : ByteArray).data.toList) with
         | true =>
          rw [h2] at HS2 HW2
          have HW3 := Ho (show wrd cl ws = wrd false (ws.drop (j + 1)) from HW2.o)
          clear h2
          go_wp2_with fail
          refine HS2.o.mono ?_
          rintro e w9 ⟨rfl, h9⟩
          have HV9 := Ho (HV8.o.trans h9)
          clear h9
          dsimp only
          go_wp2
          go_roundw
          all_goals first
           | exact ⟨j + 1, false, by go_num, rfl, by omega, Ho ⟨HV9.o, HW3.o⟩⟩
           | (simp [intOf]; omega)
         | false =>
          rw [h2] at HS2 HW2
          have HW3 := Ho (show wrd cl ws = wrd cj (ws.drop (j + 1)) from HW2.o)
          clear h2
          go_wp2_with fail
          refine HS2.o.mono ?_
          rintro e w9 ⟨rfl, h9⟩
          have HV9 := Ho (HV8.o.trans h9)
          clear h9
          dsimp only
          go_wp2
          go_roundw
          all_goals first
           | exact ⟨j + 1, cj, by go_num, rfl, by omega, Ho ⟨HV9.o, HW3.o⟩⟩
           | (simp [intOf]; omega)
      have hjlz : ¬ (j : Int) < (n : Int) := by omega
      have HX := Ho (show wrd cl ws = (cj, false) by
       rw [HV.o.2, List.drop_eq_nil_of_le (by rw [HNn.o]; omega)]
       rfl)
      have HE := Ho (show rv = cls cj (fs.drop (i + 1)) by rw [HN.o, HX.o]; rfl)
      have HU8 := Ho (HU6.o.trans HV.o.1)
      go_wp2
      go_roundw
      all_goals first
       | exact ⟨i + 1, cj, by go_num, rfl, by omega, Ho ⟨HU8.o, HE.o⟩⟩
       | (simp [intOf]; omega)
  have hilz : ¬ (i : Int) < (fs.length : Int) := by omega
  have HE := Ho (show rv = cl by rw [HU.o.2, List.drop_eq_nil_of_le (by omega)]; rfl)
  go_wp2
  try rw [Exit.noGoto_ret]
  go_ret
  rw [HE.o]
  exact ⟨rfl, HU.o.1⟩
end Go.Proofs.YtehnnlhoajdcaaaGreatDoor
