import Derived.Test.YtehnnlhoajdcaaaGreatDoorMj
import Derived.Test.YtehnnlhoajdcaaaGreatDoorSn
namespace Go.Proofs.YtehnnlhoajdcaaaGreatDoor
open Go.RowKit Go.Shelf TextNum
def nih : ByteArray := ⟨#[47, 63, 35, 64, 92]⟩
def hst (l : List UInt8) : Bool := l.isEmpty || (tgt l && !Go.Lib.containsAny l nih.data.toList)
theorem tgt_ascii {l : List UInt8} (h : tgt l = true) : ∀ (j : Nat) b, l[j]? = some b → b.toNat < 128 := fun j b hj => by
 unfold tgt at h
 rw [Bool.and_eq_true] at h
 have := List.all_eq_true.1 h.2 b (List.mem_of_getElem? hj)
 unfold vis at this
 simp only [Bool.and_eq_true, decide_eq_true_eq] at this
 omega
theorem nih_ascii : ∀ (j : Nat) b, nih.data.toList[j]? = some b → b.toNat < 128 := fun j b hj => by
 have h : ∀ b ∈ nih.data.toList, b.toNat < 128 := by decide +kernel
 exact h b (List.mem_of_getElem? hj)
theorem Tryz.zv116 (w : World) : (zeroValue (Tryz.lays150_ren.t 116)).run Tryz.prog w = .ok (.agg (Array.replicate 256 (.bool false))) w := by kernel_rfl
theorem Tryz.iv116 : (Tryz.prog.info? (Tryz.lays150_ren.t 116)).map (·.size) = some 256 := by kernel_rfl
set_option maxRecDepth 100000 in
set_option maxHeartbeats 1000000 in
theorem mayBeHost_walk (s : ByteArray) (hs : s.size ≤ 1048576) (w : World) : Calls Tryz.prog 135 #[.string s] w fun e w' => e = .returned (.bool (hst s.data.toList)) ∧ Up w w' := by
 obtain ⟨L, hL⟩ := ny s.data.toList
 have HLL := Ho hL
 rw [hL]
 obtain ⟨rv, hrv⟩ := ny (hst L)
 have HR := Ho hrv
 rw [hrv]
 clear hrv hL
 unfold hst at HR
 have HTg := Ho (isTarget_walk s (by omega) w)
 rw [HLL.o] at HTg
 cases hb : s.toList.isEmpty with
 | true =>
  have HE := Ho (show rv = true by rw [← HR.o, ← HLL.o, ← Go.Lib.toList_data, hb]; rfl)
  go_enter Tryz.func135, Tryz.ntmps135
  go_wp2
  go_ret
  rw [HE.o]
  exact ⟨rfl, Up.refl w⟩
 | false =>
  have HR2 := Ho (show rv = (tgt L && !Go.Lib.containsAny L nih.data.toList) by rw [← HR.o, ← HLL.o, ← Go.Lib.toList_data, hb]; rfl)
  cases ht : tgt L with
  | false =>
   rw [ht] at HTg HR2
   have HE := Ho (show rv = false from HR2.o)
   go_enter Tryz.func135, Tryz.ntmps135
   go_wp2_with fail
   refine HTg.o.mono ?_
   rintro e w2 ⟨rfl, h9⟩
   have HU2 := Ho h9
   clear h9
   dsimp only
   go_wp2
   go_ret
   rw [HE.o]
   exact ⟨rfl, HU2.o⟩
  | true =>
   rw [ht] at HTg HR2
   have HCA := Ho (show ∀ w, Calls Tryz.prog 171 #[.string s, .string nih] w fun e w' => e = .returned (.bool (Go.Lib.containsAny L nih.data.toList)) ∧ Up w w' from fun w => by
    have h := Any.strings_ContainsAny Tryz.lays150 Tryz.zv116 Tryz.iv116 s nih w (by omega) (by decide +kernel) (by rw [HLL.o]; exact tgt_ascii ht) nih_ascii
    rw [HLL.o] at h
    exact h)
   generalize Go.Lib.containsAny L nih.data.toList = bb at *
   have HE := Ho (show rv = !bb from HR2.o)
   unfold nih at HCA
   go_enter Tryz.func135, Tryz.ntmps135
   go_wp2_with fail
   refine HTg.o.mono ?_
   rintro e w2 ⟨rfl, h9⟩
   have HU2 := Ho h9
   clear h9
   dsimp only
   go_wp2_with fail
   refine (HCA.o w2).mono ?_
   rintro e w3 ⟨rfl, h9⟩
   have HU3 := Ho (HU2.o.trans h9)
   clear h9
   dsimp only
   go_wp2
   go_ret
   rw [HE.o]
   exact ⟨rfl, HU3.o⟩
def ish (f : FD) : Bool := kdf f.n == 1
def okh (f : FD) : Bool := !ish f || hst f.v.data.toList
def ckh (fs : List FD) (minor : Int) : Option Nat := if fs.all okh = false then some 6 else if 1 < fs.countP ish ∨ (fs.countP ish = 0 ∧ minor = 1) then some 6 else none
def eoV (ad : Nat → Addr) : Option Nat → Value
 | none => .nilIface
 | some k => ev (ad k)
set_option maxRecDepth 100000 in
set_option maxHeartbeats 1000000 in
theorem checkHost_walk (ad : Nat → Addr) (a : Option Addr) (fs : List FD) (c : Nat) (minor : Int) (w : World) (h : FdL w a fs c) (hl : fs.length ≤ 1048576) (hs : ∀ f ∈ fs, f.v.size ≤ 1048576) (hE : GE w ad) (hK : w.rangeAt 13 0 kdC) :
  Calls Tryz.prog 106 #[.slice a fs.length c, .int .i64 minor] w fun e w' => e = .returned (eoV ad (ckh fs minor)) ∧ Up w w' := by
 have HF := Ho h
 have HS := Ho hs
 have HG := Ho hE
 have HKd := Ho hK
 have hcap := h.cap
 clear h hs hE hK
 obtain ⟨rv, hrv⟩ := ny (eoV ad (ckh fs minor))
 have HR := Ho hrv
 rw [hrv]
 clear hrv
 go_enter Tryz.func106, Tryz.ntmps106
 go_wp2
 go_loopw [5, 10] (fun v5 v10 wr => ∃ i k : Nat, v10 = .int .i64 (i : Int) ∧ v5 = .int .i64 (k : Int) ∧ i ≤ fs.length ∧ k ≤ i ∧ Hd (Up w wr ∧ (fs.take i).all okh = true ∧ (fs.take i).countP ish = k)) (fun _ v10 _ => fs.length - (intOf v10).toNat)
 case atStart => exact ⟨0, 0, rfl, rfl, Nat.zero_le _, Nat.le_refl _, Ho ⟨Up.refl _, rfl, rfl⟩⟩
 case round =>
  obtain ⟨i, k, rfl, rfl, hi, hki, hU⟩ := hrel
  have HU := Ho hU.o
  clear hU
  by_cases hil : i < fs.length
  · have hilz : (i : Int) < (fs.length : Int) := by omega
    obtain ⟨b, off, rfl, k1, k2⟩ := HF.o.cells i hil
    have HRg := Ho (range2 (HU.o.1.cell k1) (HU.o.1.cell k2))
    have HT := Ho (List.take_succ_eq_append_getElem hil)
    have HMm := Ho (List.getElem_mem hil)
    obtain ⟨f, hf⟩ := ny (fs[i])
    rw [hf] at HRg HT HMm
    have hfs := HS.o _ HMm.o
    clear hf k1 k2
    go_wp2_with (with_reducible refine sI 36 ?_)
    show wpList _ _ _ _ _ _
    refine wpList_val7 (.pointer (some ⟨b, off + i * 2, none⟩)) rfl (exec_idxFd i hil rfl rfl rfl) ?_
    simp only [Act.put, pB, pC, pD]
    refine wpList_load_mid rfl _ _ rfl b (off + i * 2) rfl [.string f.n, .string f.v] _ HRg.o Tryz.underlying89 rfl infoFd2 ?_
    simp only [Act.put, pB, pC, pD]
    have HAt := Ho (at_new wr 89 [.string f.n, .string f.v])
    have HUa := Ho (HU.o.1.alloc (.cells [.string f.n, .string f.v].toArray 89))
    go_wp2_with (with_reducible refine sL 89 ?_)
    show wpList _ _ _ _ _ _
    refine wpList_load_mid rfl _ _ rfl wr.heap.size 0 rfl [.string f.n, .string f.v] _ HAt.o.range Tryz.underlying89 rfl infoFd2 ?_
    simp only [Act.put, pB, pC, pD]
    go_wp2_with fail
    refine (kindOf_walk f.n f.v _ (range_up HKd.o HUa.o)).mono ?_
    rintro e w5 ⟨rfl, u5⟩
    have HU5 := Ho (HUa.o.trans u5)
    have cv : w5.cell? ⟨wr.heap.size, 1, none⟩ = some (.string f.v) := (HAt.o.up u5).cell (i := 1) rfl
    clear u5 HAt
    dsimp only
    cases hk1 : (kdf f.n == 1) with
    | false =>
     have hne : (kdf f.n != 1) = true := by rw [bne, hk1]; rfl
     have HA2 := Ho (show (fs.take (i + 1)).all okh = true by rw [HT.o, List.all_append, HU.o.2.1]; simp [okh, ish, hk1])
     have HC2 := Ho (show (fs.take (i + 1)).countP ish = k by rw [HT.o, List.countP_append, HU.o.2.2]; simp [ish, hk1])
     clear hk1
     go_wp2
     go_roundw
     all_goals first
      | exact ⟨i + 1, k, by go_num, rfl, by omega, by omega, Ho ⟨HU5.o, HA2.o, HC2.o⟩⟩
      | (simp [intOf]; omega)
    | true =>
     have hne : (kdf f.n != 1) = false := by rw [bne, hk1]; rfl
     have HMH := Ho (mayBeHost_walk f.v hfs w5)
     cases hh : hst f.v.data.toList with
     | false =>
      rw [hh] at HMH
      have HE := Ho (show rv = ev (ad 6) by
       rw [← HR.o]
       unfold ckh
       rw [if_pos (List.all_eq_false.2 ⟨f, HMm.o, by simp [okh, ish, hk1, hh]⟩)]
       rfl)
      clear hk1
      go_wp2_with fail
      refine HMH.o.mono ?_
      rintro e w6 ⟨rfl, h9⟩
      have HU6 := Ho (HU5.o.trans h9)
      clear h9
      dsimp only
      have hgl : w6.cell? ⟨16, 0, none⟩ = _ := (HG.o.up HU6.o).gl 6 (by decide)
      go_wp2
      go_ret
      rw [HE.o]
      exact ⟨rfl, HU6.o⟩
     | true =>
      rw [hh] at HMH
      have HA2 := Ho (show (fs.take (i + 1)).all okh = true by rw [HT.o, List.all_append, HU.o.2.1]; simp [okh, hh])
      have HC2 := Ho (show (fs.take (i + 1)).countP ish = k + 1 by rw [HT.o, List.countP_append, HU.o.2.2]; simp [ish, hk1])
      clear hk1
      go_wp2_with fail
      refine HMH.o.mono ?_
      rintro e w6 ⟨rfl, h9⟩
      have HU6 := Ho (HU5.o.trans h9)
      clear h9
      dsimp only
      go_wp2
      go_roundw
      all_goals first
       | exact ⟨i + 1, k + 1, by go_num, by go_num, by omega, by omega, Ho ⟨HU6.o, HA2.o, HC2.o⟩⟩
       | (simp [intOf]; omega)
  have hilz : ¬ (i : Int) < (fs.length : Int) := by omega
  have HTk := Ho (show fs.take i = fs from List.take_of_length_le (by omega))
  have HR2 := Ho (show rv = eoV ad (if 1 < k ∨ (k = 0 ∧ minor = 1) then some 6 else none) by
   have h1 := HU.o.2.1
   have h2 := HU.o.2.2
   rw [HTk.o] at h1 h2
   rw [← HR.o]
   unfold ckh
   rw [if_neg (by rw [h1]; simp), h2])
  have hgl : wr.cell? ⟨16, 0, none⟩ = _ := (HG.o.up HU.o.1).gl 6 (by decide)
  by_cases hk1 : 1 < k
  · have hkz : (1 : Int) < (k : Int) := by omega
    have HE := Ho (show rv = ev (ad 6) by rw [HR2.o, if_pos (.inl hk1)]; rfl)
    go_wp2
    go_ret
    rw [HE.o]
    exact ⟨rfl, HU.o.1⟩
  have hkz : ¬ (1 : Int) < (k : Int) := by omega
  by_cases hk0 : k = 0
  · have hk0z : ((k : Int) == 0) = true := by rw [hk0]; rfl
    by_cases hm : minor = 1
    · have hmz : (minor == 1) = true := by rw [hm]; rfl
      have HE := Ho (show rv = ev (ad 6) by rw [HR2.o, if_pos (.inr ⟨hk0, hm⟩)]; rfl)
      clear hk0 hm
      go_wp2
      go_ret
      rw [HE.o]
      exact ⟨rfl, HU.o.1⟩
    have hmz : (minor == 1) = false := by rw [beq_eq_false_iff_ne]; exact hm
    have HE := Ho (show rv = .nilIface by rw [HR2.o, if_neg (by omega)]; rfl)
    clear hk0
    go_wp2
    go_ret
    rw [HE.o]
    exact ⟨rfl, HU.o.1⟩
  have hk0z : ((k : Int) == 0) = false := by rw [beq_eq_false_iff_ne]; omega
  have HE := Ho (show rv = .nilIface by rw [HR2.o, if_neg (by omega)]; rfl)
  go_wp2
  go_ret
  rw [HE.o]
  exact ⟨rfl, HU.o.1⟩
end Go.Proofs.YtehnnlhoajdcaaaGreatDoor
