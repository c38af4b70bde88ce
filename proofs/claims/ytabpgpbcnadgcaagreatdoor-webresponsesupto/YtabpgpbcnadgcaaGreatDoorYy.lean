import Derived.Test.YtabpgpbcnadgcaaGreatDoorYx
import Derived.WalkMore
namespace Go.Proofs.YtabpgpbcnadgcaaGreatDoor
open Go.RowKit Go.Shelf TextNum
/-- what Split reads -/
structure GM (w : World) : Prop where
  ml : ∃ m, w.cell? ⟨18, 0, none⟩ = some (.int .i64 m)
theorem GM.up {w w' : World} (h : GM w) (k : Up w w') : GM w' := ⟨by obtain ⟨m, hc⟩ := h.ml; exact ⟨m, k.cell hc⟩⟩
def sps (v : ByteArray) : List ByteArray := Go.Lib.splitB ⟨#[44]⟩ 0 (Go.Lib.countB v ⟨#[44]⟩) v
theorem sps_len (v : ByteArray) : (sps v).length = Go.Lib.countB v ⟨#[44]⟩ + 1 := Go.Lib.splitB_all ⟨#[44]⟩ (Nat.le_refl 1) 0 _ v rfl
theorem sps_small (v : ByteArray) : ∀ x ∈ sps v, x.size ≤ v.size := by
  have key : ∀ (k : Nat) (v : ByteArray), ∀ x ∈ Go.Lib.splitB ⟨#[44]⟩ 0 k v, x.size ≤ v.size := by
    intro k
    induction k with
    | zero => intro v x hx; simp [Go.Lib.splitB] at hx; rw [hx]; exact Nat.le_refl _
    | succ k ih =>
      intro v x hx
      unfold Go.Lib.splitB at hx
      split at hx
      · simp at hx; rw [hx]; exact Nat.le_refl _
      · simp only [List.mem_cons] at hx
        rcases hx with rfl | hx
        · rw [ByteArray.size_extract]; omega
        · have := ih _ x hx
          rw [ByteArray.size_extract] at this
          omega
  exact key _ v
theorem Split_up (s : ByteArray) (hs : s.size ≤ 1048576) (w : World) (hG : GM w) : Calls Tryz.prog 154 #[.string s, .string ⟨#[44]⟩] w fun e w' => e = .returned (.slice (some ⟨w.heap.size, 0, none⟩) (sps s).length (sps s).length) ∧ Hid (∀ i (h : i < (sps s).length), w'.cell? ⟨w.heap.size, i, none⟩ = some (.string (sps s)[i])) ∧ Up w w' := by
  obtain ⟨m, hm⟩ := hG.ml
  refine (Any.strings_Split Tryz.lays146 (by kernel_rfl) s ⟨#[44]⟩ m w (by omega) hm (Nat.le_refl 1)).mono ?_
  rintro e w' ⟨rfl, rfl⟩
  refine ⟨by rw [sps_len], Hid.of (fun i hi => ?_), (Up.refl w).alloc _⟩
  rw [World.cell?_alloc_at _ _ _ _ rfl]
  rw [List.getElem?_toArray, List.getElem?_map]
  show Option.map Value.string (sps s)[i]? = _
  rw [List.getElem?_eq_getElem hi]
  rfl
def wcl : ByteArray := ⟨#[99, 108, 111, 115, 101]⟩
def wka : ByteArray := ⟨#[107, 101, 101, 112, 45, 97, 108, 105, 118, 101]⟩
/-- the words of one Connection field: is it to be closed, and was that said -/
def wrd (c : Bool) : List ByteArray → Bool × Bool
  | [] => (c, false)
  | x :: r => if (lws (trm x.data.toList) == lws wcl.data.toList) = true then (true, true) else wrd (if (lws (trm x.data.toList) == lws wka.data.toList) = true then false else c) r
/-- is the connection to be closed -/
def cls (c : Bool) : List FD → Bool
  | [] => c
  | f :: r => if (kdf f.n == 2) = true then (if (wrd c (sps f.v)).2 = true then true else cls (wrd c (sps f.v)).1 r) else cls c r
theorem wrd_stop : ∀ (c : Bool) (l : List ByteArray), (wrd c l).2 = true → (wrd c l).1 = true
  | _, [], h => by cases h
  | c, x :: r, h => by
    rw [wrd] at h ⊢
    split
    · rfl
    · rename_i hn
      rw [if_neg hn] at h
      exact wrd_stop _ r h
theorem exec_idxS {o : Oper} {ρ : Operand → Value} {x y : Operand} {w : World} {b n c : Nat} (i : Nat) (hi : i < n) (ho : o.op = .indexAddr 25 x y) (hx : ρ x = .slice (some ⟨b, 0, none⟩) n c) (hy : ρ y = .int .i64 (i : Int)) : (execOp ρ o).run Tryz.prog w = .ok (.value (.pointer (some ⟨b, i, none⟩))) w := by
  have hi' : (i : Int) < (n : Int) := by omega
  unfold execOp
  simp only [ho, hx, hy]
  go_simp
set_option maxRecDepth 100000 in
set_option maxHeartbeats 2000000 in
theorem closes_walk (a : Option Addr) (fs : List FD) (c : Nat) (minor : Int) (w : World) (h : FdL w a fs c) (hl : fs.length ≤ 1048576) (hs : ∀ f ∈ fs, f.v.size ≤ 1048576) (hK : w.rangeAt 13 0 kdC) (hM : GM w) :
    Calls Tryz.prog 120 #[.slice a fs.length c, .int .i64 minor] w fun e w' => e = .returned (.bool (cls (minor == 0) fs)) ∧ Up w w' := by
  have HF := Hid.of h
  have HS := Hid.of hs
  have HKd := Hid.of hK
  have HMl := Hid.of hM
  have hcap := h.cap
  clear h hs hK hM
  obtain ⟨rv, hrv⟩ : ∃ rv, cls (minor == 0) fs = rv := ⟨_, rfl⟩
  have HR := Hid.of hrv
  rw [hrv]
  clear hrv
  generalize hmz : (minor == 0) = m0 at HR
  go_enter Tryz.func120, Tryz.ntmps120
  go_wp2
  go_step3
  go_wp2
  go_step3
  go_wp2
  go_loopw [5, 14] (fun v5 v14 wr => ∃ (i : Nat) (cl : Bool), v14 = .int .i64 (i : Int) ∧ v5 = .bool cl ∧ i ≤ fs.length ∧ Hid (Up w wr ∧ rv = cls cl (fs.drop i))) (fun _ v14 _ => fs.length - (intOf v14).toNat)
  case atStart => exact ⟨0, m0, rfl, by rw [← hmz], Nat.zero_le _, Hid.of ⟨Up.refl _, by rw [← HR.out]; rfl⟩⟩
  case round =>
    obtain ⟨i, cl, rfl, rfl, hi, hU⟩ := hrel
    have HU := Hid.of hU.out
    clear hU
    by_cases hil : i < fs.length
    · have hilz : (i : Int) < (fs.length : Int) := by omega
      obtain ⟨b, off, rfl, k1, k2⟩ := HF.out.cells i hil
      have HRg := Hid.of (range2 (HU.out.1.cell k1) (HU.out.1.cell k2))
      have HT := Hid.of (List.drop_eq_getElem_cons hil)
      have HMm := Hid.of (List.getElem_mem hil)
      obtain ⟨f, hf⟩ : ∃ f, fs[i] = f := ⟨_, rfl⟩
      rw [hf] at HRg HT HMm
      have hfs := HS.out _ HMm.out
      clear hf k1 k2
      go_wp2_with (with_reducible show wpList _ _ _ ({ dst := _, op := Op.indexAddr 36 _ _, type := _, pos := _, after := _, guard := _ } :: _) _ _; refine Shut.out ?_)
      show wpList _ _ _ _ _ _
      refine wpList_val7 (.pointer (some ⟨b, off + i * 2, none⟩)) rfl (exec_idxFd i hil rfl rfl rfl) ?_
      simp only [Act.put, List.setIfInBounds_toArray, List.set_cons_zero, List.set_cons_succ]
      refine wpList_load_mid rfl _ _ rfl b (off + i * 2) rfl [.string f.n, .string f.v] _ HRg.out Tryz.underlying89 rfl infoFd2 ?_
      simp only [Act.put, List.setIfInBounds_toArray, List.set_cons_zero, List.set_cons_succ]
      have HAt := Hid.of (at_new wr 89 [.string f.n, .string f.v])
      have HUa := Hid.of (HU.out.1.alloc (.cells [.string f.n, .string f.v].toArray 89))
      go_wp2_with (with_reducible show wpList _ _ _ ({ dst := _, op := Op.load 89 _, type := _, pos := _, after := _, guard := _ } :: _) _ _; refine Shut.out ?_)
      show wpList _ _ _ _ _ _
      refine wpList_load_mid rfl _ _ rfl wr.heap.size 0 rfl [.string f.n, .string f.v] _ HAt.out.range Tryz.underlying89 rfl infoFd2 ?_
      simp only [Act.put, List.setIfInBounds_toArray, List.set_cons_zero, List.set_cons_succ]
      go_wp2_with fail
      refine (kindOf_walk f.n f.v _ (range_up HKd.out HUa.out)).mono ?_
      rintro e w5 ⟨rfl, u5⟩
      have HU5 := Hid.of (HUa.out.trans u5)
      have cv : w5.cell? ⟨wr.heap.size, 1, none⟩ = some (.string f.v) := (HAt.out.up u5).cell (i := 1) rfl
      clear u5 HAt HUa
      dsimp only
      cases hk2 : (kdf f.n == 2) with
      | false =>
        have hne : (kdf f.n != 2) = true := by rw [bne, hk2]; rfl
        have HN := Hid.of (show rv = cls cl (fs.drop (i + 1)) by rw [HU.out.2, HT.out, cls, if_neg (by rw [hk2]; simp)])
        clear hk2
        go_wp2
        go_roundw
        all_goals first
          | exact ⟨i + 1, cl, by go_num, rfl, by omega, Hid.of ⟨HU5.out, HN.out⟩⟩
          | (simp [intOf]; omega)
      | true =>
        have hne : (kdf f.n != 2) = false := by rw [bne, hk2]; rfl
        have HN := Hid.of (show rv = if (wrd cl (sps f.v)).2 = true then true else cls (wrd cl (sps f.v)).1 (fs.drop (i + 1)) by rw [HU.out.2, HT.out, cls, if_pos hk2])
        have hsm := sps_small f.v
        have HSm := Hid.of hsm
        clear hk2 hsm
        go_wp2_with fail
        refine (Split_up f.v hfs w5 (HMl.out.up HU5.out)).mono ?_
        rintro e w6 ⟨rfl, hc6, h9⟩
        have HU6 := Hid.of (HU5.out.trans h9)
        have HC6 := Hid.of hc6.out
        have hcn : (sps f.v).length ≤ 1048577 := by
          rw [sps_len]
          have := Go.Lib.countB_le ⟨#[44]⟩ (Nat.le_refl 1) f.v.size f.v (Nat.le_refl _)
          omega
        clear h9 hc6
        generalize sps f.v = ws at *
        obtain ⟨n, hn⟩ : ∃ n, ws.length = n := ⟨_, rfl⟩
        have HNn := Hid.of hn
        rw [hn] at hcn ⊢
        clear hn
        dsimp only
        go_wp2
        go_loopw [5, 25] (fun v5 v25 wq => ∃ (j : Nat) (cj : Bool), v25 = .int .i64 (j : Int) ∧ v5 = .bool cj ∧ j ≤ n ∧ Hid (Up w6 wq ∧ wrd cl ws = wrd cj (ws.drop j))) (fun _ v25 _ => n - (intOf v25).toNat)
        case atStart => exact ⟨0, cl, rfl, rfl, Nat.zero_le _, Hid.of ⟨Up.refl _, rfl⟩⟩
        case round =>
          obtain ⟨j, cj, rfl, rfl, hj, hV⟩ := hrel
          have HV := Hid.of hV.out
          clear hV
          by_cases hjl : j < n
          · have hjlz : (j : Int) < (n : Int) := by omega
            have hjw : j < ws.length := by rw [HNn.out]; exact hjl
            have HTj := Hid.of (List.drop_eq_getElem_cons hjw)
            have hcell := HV.out.1.cell (HC6.out j hjw)
            have hxs := HSm.out _ (List.getElem_mem hjw)
            obtain ⟨x, hx⟩ : ∃ x, ws[j] = x := ⟨_, rfl⟩
            rw [hx] at HTj hcell hxs
            clear hx hjw
            have HTr := Hid.of (trim_walk x (by omega) wr)
            go_wp2_with (with_reducible show wpList _ _ _ ({ dst := _, op := Op.indexAddr 25 _ _, type := _, pos := _, after := _, guard := _ } :: _) _ _; refine Shut.out ?_)
            show wpList _ _ _ _ _ _
            refine wpList_val7 (.pointer (some ⟨w5.heap.size, j, none⟩)) rfl (exec_idxS j hjl rfl rfl rfl) ?_
            simp only [Act.put, List.setIfInBounds_toArray, List.set_cons_zero, List.set_cons_succ]
            go_wp2_with fail
            refine HTr.out.mono ?_
            rintro e w7 ⟨rfl, h9⟩
            have HV7 := Hid.of (HV.out.1.trans h9)
            clear h9 hcell HTr
            have HL := Hid.of (trm_len x.data.toList)
            obtain ⟨y, hy⟩ : ∃ y : ByteArray, (⟨(trm x.data.toList).toArray⟩ : ByteArray) = y := ⟨_, rfl⟩
            have hyd : trm x.data.toList = y.data.toList := by rw [← hy]
            rw [hyd] at HL ⊢
            have hys : y.size ≤ 1048576 := by
              have := HL.out
              rw [← Go.Lib.size_eq, ← Go.Lib.size_eq] at this
              omega
            have HW := Hid.of (show wrd cl ws = if (lws y.data.toList == lws wcl.data.toList) = true then (true, true) else wrd (if (lws y.data.toList == lws wka.data.toList) = true then false else cj) (ws.drop (j + 1)) by
              rw [HV.out.2, HTj.out, wrd, hyd])
            rw [vs_data']
            clear hy hyd HL
            dsimp only
            have HS1 := Hid.of (sameWord_walk y wcl w7 (by omega))
            unfold wcl at HS1 HW
            cases h1 : (lws y.data.toList == lws (⟨#[99, 108, 111, 115, 101]⟩ : ByteArray).data.toList) with
            | true =>
              rw [h1] at HS1
              have HE := Hid.of (show rv = true by rw [HN.out, HW.out, if_pos h1, if_pos rfl])
              clear h1
              go_wp2_with fail
              refine HS1.out.mono ?_
              rintro e w8 ⟨rfl, h9⟩
              have HU8 := Hid.of (HU6.out.trans (HV7.out.trans h9))
              clear h9
              dsimp only
              go_wp2
              try rw [Exit.noGoto_ret]
              go_ret
              rw [HE.out]
              exact ⟨rfl, HU8.out⟩
            | false =>
              rw [h1] at HS1
              have HW2 := Hid.of (show wrd cl ws = wrd (if (lws y.data.toList == lws wka.data.toList) = true then false else cj) (ws.drop (j + 1)) by rw [HW.out, if_neg (by rw [h1]; simp)])
              clear h1
              go_wp2_with fail
              refine HS1.out.mono ?_
              rintro e w8 ⟨rfl, h9⟩
              have HV8 := Hid.of (HV7.out.trans h9)
              clear h9
              dsimp only
              have HS2 := Hid.of (sameWord_walk y wka w8 (by omega))
              unfold wka at HS2 HW2
              cases h2 : (lws y.data.toList == lws (⟨#[107, 101, 101, 112, 45, 97, 108, 105, 118, 101]⟩ : ByteArray).data.toList) with
              | true =>
                rw [h2] at HS2 HW2
                have HW3 := Hid.of (show wrd cl ws = wrd false (ws.drop (j + 1)) from HW2.out)
                clear h2
                go_wp2_with fail
                refine HS2.out.mono ?_
                rintro e w9 ⟨rfl, h9⟩
                have HV9 := Hid.of (HV8.out.trans h9)
                clear h9
                dsimp only
                go_wp2
                go_roundw
                all_goals first
                  | exact ⟨j + 1, false, by go_num, rfl, by omega, Hid.of ⟨HV9.out, HW3.out⟩⟩
                  | (simp [intOf]; omega)
              | false =>
                rw [h2] at HS2 HW2
                have HW3 := Hid.of (show wrd cl ws = wrd cj (ws.drop (j + 1)) from HW2.out)
                clear h2
                go_wp2_with fail
                refine HS2.out.mono ?_
                rintro e w9 ⟨rfl, h9⟩
                have HV9 := Hid.of (HV8.out.trans h9)
                clear h9
                dsimp only
                go_wp2
                go_roundw
                all_goals first
                  | exact ⟨j + 1, cj, by go_num, rfl, by omega, Hid.of ⟨HV9.out, HW3.out⟩⟩
                  | (simp [intOf]; omega)
          · have hjlz : ¬ (j : Int) < (n : Int) := by omega
            have HX := Hid.of (show wrd cl ws = (cj, false) by
              rw [HV.out.2, List.drop_eq_nil_of_le (by rw [HNn.out]; omega)]
              rfl)
            have HE := Hid.of (show rv = cls cj (fs.drop (i + 1)) by rw [HN.out, HX.out]; rfl)
            have HU8 := Hid.of (HU6.out.trans HV.out.1)
            go_wp2
            go_roundw
            all_goals first
              | exact ⟨i + 1, cj, by go_num, rfl, by omega, Hid.of ⟨HU8.out, HE.out⟩⟩
              | (simp [intOf]; omega)
    · have hilz : ¬ (i : Int) < (fs.length : Int) := by omega
      have HE := Hid.of (show rv = cl by rw [HU.out.2, List.drop_eq_nil_of_le (by omega)]; rfl)
      go_wp2
      try rw [Exit.noGoto_ret]
      go_ret
      rw [HE.out]
      exact ⟨rfl, HU.out.1⟩
end Go.Proofs.YtabpgpbcnadgcaaGreatDoor
