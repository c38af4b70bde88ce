import Derived.Test.YtehnnlhoajdcaaaGreatDoorMp
import Derived.Deep.AppendSrc
namespace Go.Proofs.YtehnnlhoajdcaaaGreatDoor
open Go.RowKit Go.Shelf TextNum
theorem rqg_er {st fl : List UInt8} {k : Nat} (h : rqg st fl = .error k) : k < 12 := by
 unfold rqg at h
 split at h
 · rename_i he
   injection h with h
   subst h
   exact rql_er he
 split at h
 · rename_i he
   injection h with h
   subst h
   exact rdf_er he
 split at h
 · rename_i he
   injection h with h
   subst h
   have := ckh_er he
   omega
 split at h
 · rename_i he
   injection h with h
   subst h
   have := frm_er he
   omega
 cases h
theorem msg_lt {X Y : Type} {pl : Nat} {g : List UInt8 → List UInt8 → Er (X × Int × Nat)} {mk : X → Int → List UInt8 → Y} {l : List UInt8} {k : Nat} (hp : pl < 12) (hg : ∀ st fl k, g st fl = .error k → k < 12) (h : msg pl g mk l = .error k) : k < 24 := by
 unfold msg at h
 split at h
 · rename_i he
   injection h with h
   subst h
   have := cHd_er he
   omega
 split at h
 · rename_i he
   injection h with h
   subst h
   have := hg _ _ _ he
   omega
 split at h
 · rename_i he
   injection h with h
   subst h
   have := fcu_er he
   omega
 cases h
theorem rqP_lt {l : List UInt8} {k : Nat} (h : rqP l = .error k) : k < 24 := msg_lt (by decide) (fun _ _ _ => rqg_er) h
def PqR (w w' : World) (e : Ending) : Er ((Rq × List UInt8) × Nat) → Prop
 | .error k => e = .returned (.tuple #[.agg z6.toArray, .int .i64 0, .int .i64 (numK k)])
 | .ok ((x, b), n) => ∃ a c v, e = .returned (.tuple #[rqV x a c v, .int .i64 (n : Int), .int .i64 0]) ∧ Hd (FdO w' w.heap.size a x.fs c ∧ Ow w' w.heap.size v b)
set_option maxRecDepth 100000 in
set_option maxHeartbeats 4000000 in
theorem ParseRequest_walk (ad : Nat → Addr) {a : Option Addr} {n c : Nat} {ds : List UInt8} (hn40 : n ≤ 1099511627776) (w : World) (hS : Sb w (.slice a n c) ds) (hW : GW w ad) : Calls Tryz.prog 29 #[.slice a n c] w fun e w' => PqR w w' e (rqP ds) ∧ Up w w' := by
 have HW := Ho hW
 have HA0 := Ho (at_new w 48 z6)
 have HU0 := Ho ((Up.refl w).alloc (.cells z6.toArray 48))
 have HRq := Ho (readRequest_walk ad hn40 (w.alloc (.cells z6.toArray 48)) (hS.up HU0.o) (hW.up HU0.o))
 clear hW hS
 go_enter Tryz.func29, Tryz.ntmps29
 go_wp2_with fail
 change Calls _ _ _ (w.alloc (.cells z6.toArray 48)) _
 generalize w.alloc (.cells z6.toArray 48) = w1 at *
 refine HRq.o.mono ?_
 rintro e w2 ⟨hR, h9⟩
 have HU2 := Ho (HU0.o.trans h9)
 have HA2 := Ho (HA0.o.up h9)
 clear h9 HRq
 cases hr : rqP ds with
 | error k =>
  rw [hr] at hR
  obtain rfl : e = _ := hR
  have hk := rqP_lt hr
  have hne := er_neq ad k
  have hge := er_grd ad k
  have HE := Ho hr
  unfold z6
  dsimp only
  clear hr
  go_wp2_with fail
  have HU3 := Ho (HU2.o.alloc (.cells #[.string ⟨#[]⟩, .string ⟨#[]⟩, .int .i64 0, .slice none 0 0, .slice none 0 0, .bool false] 48))
  refine (numberOf_any ad k hk _ (HW.o.up HU3.o).ge).mono ?_
  rintro e w4 ⟨rfl, h9⟩
  have HU4 := Ho (HU3.o.trans h9)
  have HA4 := Ho ((HA2.o.up ((Up.refl w2).alloc _)).up h9)
  clear h9
  dsimp only
  go_wp2_with (with_reducible show wpList _ _ _ (⟨_, .store 48 (.tmp 2) _, _, _, _, _⟩ :: _) _ _; refine Shut.out ?_)
  show wpList _ _ _ _ _ _
  refine wpList_store_at rfl 48 _ _ rfl (w.heap.size) HA4.o z6 rfl rfl rfl (by kernel_rfl) (by kernel_rfl) ?_
  intro w8 hA8 hg8
  have HA8 := Ho hA8
  have HU8 := Ho (HU4.o.bz hg8)
  clear hA8 hg8
  simp only [Act.put]
  repeat go_step
  refine bodyPost_ret (result_cell_tmp2 Tryz.results29 _ _ (w.heap.size) z6 _ _ rfl rfl rfl HA8.o.range Tryz.underlying48 rfl (by kernel_rfl)) rfl ?_
  rw [HE.o]
  exact ⟨rfl, HU8.o⟩
 | ok q =>
  obtain ⟨⟨x, b⟩, m⟩ := q
  rw [hr] at hR
  obtain ⟨af, cf, v, rfl, hO⟩ := hR
  have HF2 := Ho (ow_base hO.o.1 HU0.o.size)
  have HB2 := Ho (ow_base hO.o.2 HU0.o.size)
  have HE := Ho hr
  clear hO hr
  obtain ⟨aB, nB, cB, rfl⟩ := Sb.shape (Ow.sb HB2.o)
  obtain ⟨rl, hrl⟩ : ∃ rl, rl = rqV x af cf (.slice aB nB cB) := ⟨_, rfl⟩
  have HRl := Ho hrl
  rw [← hrl]
  obtain ⟨xm, hxm⟩ : ∃ xm, xm = vs x.m := ⟨_, rfl⟩
  obtain ⟨xt, hxt⟩ : ∃ xt, xt = vs x.t := ⟨_, rfl⟩
  obtain ⟨cl, hcl⟩ : ∃ cl, cl = cls (x.mi == 0) x.fs := ⟨_, rfl⟩
  obtain ⟨nf, hnf⟩ : ∃ nf, nf = x.fs.length := ⟨_, rfl⟩
  have HRv := Ho (show rqV x af cf (.slice aB nB cB) = .agg #[vs x.m, vs x.t, .int .i64 x.mi, .slice af nf cf, .slice aB nB cB, .bool cl] by unfold rqV; rw [hcl, hnf])
  rw [hrl, HRv.o]
  clear hrl hxm hxt hcl hnf HRl
  have HA3 := Ho (at_new w2 48 [vs x.m, vs x.t, .int .i64 x.mi, .slice af nf cf, .slice aB nB cB, .bool cl])
  have HU3 := Ho ((Up.refl w2).alloc (.cells [vs x.m, vs x.t, .int .i64 x.mi, .slice af nf cf, .slice aB nB cB, .bool cl].toArray 48))
  go_wp2_with (with_reducible refine sL 48 ?_)
  show wpList _ _ _ _ _ _
  refine wpList_load_mid rfl _ _ rfl w2.heap.size 0 rfl _ _ HA3.o.range Tryz.underlying48 rfl (by kernel_rfl) ?_
  simp only [Act.put, pB, pC, pD]
  go_wp2_with (with_reducible show wpList _ _ _ (⟨_, .store 48 (.tmp 2) _, _, _, _, _⟩ :: _) _ _; refine Shut.out ?_)
  show wpList _ _ _ _ _ _
  refine wpList_store_at rfl 48 _ _ rfl (w.heap.size) (HA2.o.up HU3.o) [vs x.m, vs x.t, .int .i64 x.mi, .slice af nf cf, .slice aB nB cB, .bool cl] rfl rfl rfl (by kernel_rfl) (by kernel_rfl) ?_
  intro w8 hA8 hg8
  have HA8 := Ho hA8
  have HU8 := Ho ((HU2.o.trans HU3.o).bz hg8)
  have HF8 := Ho ((ow_up HF2.o HU3.o).kept hg8 (.inr (own_ne HF2.o HA2.o (by decide))))
  have HO8 := Ho ((ow_up HB2.o HU3.o).kept hg8 (.inr (own_ne HB2.o HA2.o (by decide))))
  clear hA8 hg8
  simp only [Act.put]
  repeat go_step
  refine bodyPost_ret (result_cell_tmp2 Tryz.results29 _ _ (w.heap.size) [vs x.m, vs x.t, .int .i64 x.mi, .slice af nf cf, .slice aB nB cB, .bool cl] _ _ rfl rfl rfl HA8.o.range Tryz.underlying48 rfl (by kernel_rfl)) rfl ?_
  rw [HE.o]
  exact ⟨⟨af, cf, .slice aB nB cB, congrArg (fun y => Ending.returned (.tuple #[y, .int .i64 (m : Int), .int .i64 0])) HRv.o.symm, Ho ⟨HF8.o, HO8.o⟩⟩, HU8.o⟩
def sto (z : Int) : Bool := decide (100 ≤ z) && decide (z ≤ 599)
def bdl (z : Int) : Bool := (decide (100 ≤ z) && decide (z ≤ 199)) || (z == 204) || (z == 304)
set_option maxRecDepth 100000 in
theorem isStatus_walk (z : Int) (w : World) : Calls Tryz.prog 128 #[.int .i64 z] w fun e w' => e = .returned (.bool (sto z)) ∧ w' = w := by
 by_cases h1 : 100 ≤ z
 · have d1 : decide (100 ≤ z) = true := decide_eq_true h1
   go_enter Tryz.func128, Tryz.ntmps128
   go_wp2
   go_ret
   exact ⟨by unfold sto; rw [d1]; rfl, rfl⟩
 have d1 : decide (100 ≤ z) = false := decide_eq_false h1
 go_enter Tryz.func128, Tryz.ntmps128
 go_wp2
 go_ret
 exact ⟨by unfold sto; rw [d1]; rfl, rfl⟩
set_option maxRecDepth 100000 in
theorem isBodiless_walk (z : Int) (w : World) : Calls Tryz.prog 87 #[.int .i64 z] w fun e w' => e = .returned (.bool (bdl z)) ∧ w' = w := by
 obtain ⟨rv, hrv⟩ := ny (bdl z)
 have HR := Ho hrv
 rw [hrv]
 clear hrv
 unfold bdl at HR
 by_cases h0 : 100 ≤ z ∧ z ≤ 199
 · have h1 := h0.1
   have h2 := h0.2
   have HE := Ho (show rv = true by rw [← HR.o, decide_eq_true h1, decide_eq_true h2]; rfl)
   clear h0
   go_enter Tryz.func87, Tryz.ntmps87
   go_wp2
   go_ret
   rw [HE.o]
   exact ⟨rfl, rfl⟩
 have hd : (decide (100 ≤ z) && decide (z ≤ 199)) = false := by
  rw [Bool.and_eq_false_iff, decide_eq_false_iff_not, decide_eq_false_iff_not]; omega
 have HR2 := Ho (show rv = ((z == 204) || (z == 304)) by rw [← HR.o, hd]; rfl)
 clear HR hd
 cases h4 : (z == 204) with
 | true =>
  rw [h4] at HR2
  have HE := Ho (show rv = true from HR2.o)
  have hz : z = 204 := by simpa using h4
  subst hz
  clear h0
  go_enter Tryz.func87, Tryz.ntmps87
  go_wp2
  go_ret
  rw [HE.o]
  exact ⟨rfl, rfl⟩
 | false =>
  rw [h4] at HR2
  have HE := Ho (show rv = (z == 304) by rw [HR2.o]; rfl)
  by_cases h1 : 100 ≤ z
  · have h2 : ¬ z ≤ 199 := by omega
    clear h0
    go_enter Tryz.func87, Tryz.ntmps87
    go_wp2
    go_ret
    rw [HE.o]
    exact ⟨rfl, rfl⟩
  clear h0
  go_enter Tryz.func87, Tryz.ntmps87
  go_wp2
  go_ret
  rw [HE.o]
  exact ⟨rfl, rfl⟩
def szf (f : FD) : Nat := f.n.size + f.v.size + 4
def szs (fs : List FD) : Nat := 2 + (fs.map szf).sum
theorem szs_snoc (fs : List FD) (f : FD) : szs (fs ++ [f]) = szs fs + szf f := by simp [szs]; omega
theorem szs_take (fs : List FD) (i : Nat) : szs (fs.take i) ≤ szs fs := by
 have h : szs fs = szs (fs.take i) + ((fs.drop i).map szf).sum := by
  conv => lhs; rw [← List.take_append_drop i fs]
  unfold szs
  rw [List.map_append, List.sum_append]
  omega
 omega
theorem szs_len : ∀ fs : List FD, 4 * fs.length + 2 ≤ szs fs
 | [] => by simp [szs]
 | f :: r => by
  have h := szs_len r
  have e : szs (f :: r) = szf f + szs r := by simp [szs]; omega
  rw [e, List.length_cons]
  unfold szf
  omega
set_option maxRecDepth 100000 in
set_option maxHeartbeats 1000000 in
theorem sizeOf_walk (a : Option Addr) (fs : List FD) (c : Nat) (w : World) (h : FdL w a fs c) (hl : szs fs ≤ 1099511627776) :
  Calls Tryz.prog 100 #[.slice a fs.length c] w fun e w' => e = .returned (.int .i64 ((szs fs : Nat) : Int)) ∧ Up w w' := by
 have HF := Ho h
 have hcap := h.cap
 have hsl := szs_len fs
 have HT := Ho (fun i => szs_take fs i)
 clear h
 obtain ⟨z, hz⟩ := ny (szs fs)
 have HZ := Ho hz
 rw [hz] at hl hsl HT ⊢
 clear hz
 go_enter Tryz.func100, Tryz.ntmps100
 go_wp2
 go_loopw [3, 8] (fun v3 v8 wr => ∃ i k : Nat, v8 = .int .i64 (i : Int) ∧ v3 = .int .i64 (k : Int) ∧ i ≤ fs.length ∧ k ≤ z ∧ Hd (Up w wr ∧ szs (fs.take i) = k)) (fun _ v8 _ => fs.length - (intOf v8).toNat)
 case atStart => exact ⟨0, 2, rfl, rfl, Nat.zero_le _, by omega, Ho ⟨Up.refl _, rfl⟩⟩
 case round =>
  obtain ⟨i, k, rfl, rfl, hi, hkz, hU⟩ := hrel
  have HU := Ho hU.o
  clear hU
  by_cases hil : i < fs.length
  · have hilz : (i : Int) < (fs.length : Int) := by omega
    obtain ⟨b, off, rfl, k1, k2⟩ := HF.o.cells i hil
    have HRg := Ho (range2 (HU.o.1.cell k1) (HU.o.1.cell k2))
    have hT := List.take_succ_eq_append_getElem hil
    obtain ⟨f, hf⟩ := ny (fs[i])
    rw [hf] at HRg hT
    have h5 := HT.o (i + 1)
    rw [hT, szs_snoc, HU.o.2] at h5
    have HS2 := Ho (show szs (fs.take (i + 1)) = k + szf f by rw [hT, szs_snoc, HU.o.2])
    unfold szf at h5
    have hn64 : ((f.n.size : Int)) ≤ 1099511627776 := by omega
    clear hf k1 k2 hT
    go_wp2_with (with_reducible refine sI 36 ?_)
    show wpList _ _ _ _ _ _
    refine wpList_val7 (.pointer (some ⟨b, off + i * 2, none⟩)) rfl (exec_idxFd i hil rfl rfl rfl) ?_
    simp only [Act.put, pB, pC, pD]
    refine wpList_load_mid rfl _ _ rfl b (off + i * 2) rfl [.string f.n, .string f.v] _ HRg.o Tryz.underlying89 rfl infoFd2 ?_
    simp only [Act.put, pB, pC, pD]
    have HUa := Ho (HU.o.1.alloc (.cells [.string f.n, .string f.v].toArray 89))
    go_wp2
    go_roundw
    all_goals first
     | exact ⟨i + 1, k + szf f, by go_num, by (unfold szf; go_num), by omega, by (unfold szf; omega), Ho ⟨HUa.o, HS2.o⟩⟩
     | (simp [intOf]; omega)
  have hilz : ¬ (i : Int) < (fs.length : Int) := by omega
  have HTk := Ho (show fs.take i = fs from List.take_of_length_le (by omega))
  go_wp2
  go_ret
  have h2 := HU.o.2
  rw [HTk.o, HZ.o] at h2
  rw [h2]
  exact ⟨rfl, HU.o.1⟩
def mbf (f : FD) : Bool := tok f.n.data.toList && vlu f.v.data.toList
def ckf (fs : List FD) : Option Nat := if 64 < fs.length then some 1 else if fs.all mbf = false then some 5 else none
set_option maxRecDepth 100000 in
set_option maxHeartbeats 1000000 in
theorem checkFields_walk (ad : Nat → Addr) (a : Option Addr) (fs : List FD) (c : Nat) (w : World) (h : FdL w a fs c) (hl : szs fs ≤ 1099511627776) (hE : GE w ad) :
  Calls Tryz.prog 105 #[.slice a fs.length c] w fun e w' => e = .returned (eoV ad (ckf fs)) ∧ Up w w' := by
 have HF := Ho h
 have HG := Ho hE
 have hcap := h.cap
 have hsl := szs_len fs
 have HT := Ho (fun i => szs_take fs i)
 clear h hE
 obtain ⟨rv, hrv⟩ := ny (eoV ad (ckf fs))
 have HR := Ho hrv
 rw [hrv]
 clear hrv
 obtain ⟨z, hz⟩ := ny (szs fs)
 rw [hz] at hl hsl HT
 clear hz
 by_cases h64 : 64 < fs.length
 · have h64z : (64 : Int) < (fs.length : Int) := by omega
   have HE := Ho (show rv = ev (ad 1) by rw [← HR.o]; unfold ckf; rw [if_pos h64]; rfl)
   have hgl : w.cell? ⟨2, 0, none⟩ = _ := HG.o.gl 1 (by decide)
   go_enter Tryz.func105, Tryz.ntmps105
   go_wp2
   go_ret
   rw [HE.o]
   exact ⟨rfl, Up.refl _⟩
 have h64z : ¬ (64 : Int) < (fs.length : Int) := by omega
 have HR2 := Ho (show rv = eoV ad (if fs.all mbf = false then some 5 else none) by rw [← HR.o]; unfold ckf; rw [if_neg h64])
 go_enter Tryz.func105, Tryz.ntmps105
 go_wp2
 go_loopw [11] (fun v8 wr => ∃ i : Nat, v8 = .int .i64 (i : Int) ∧ i ≤ fs.length ∧ Hd (Up w wr ∧ (fs.take i).all mbf = true)) (fun v8 _ => fs.length - (intOf v8).toNat)
 case atStart => exact ⟨0, rfl, Nat.zero_le _, Ho ⟨Up.refl _, rfl⟩⟩
 case round =>
  obtain ⟨i, rfl, hi, hU⟩ := hrel
  have HU := Ho hU.o
  clear hU
  by_cases hil : i < fs.length
  · have hilz : (i : Int) < (fs.length : Int) := by omega
    obtain ⟨b, off, rfl, k1, k2⟩ := HF.o.cells i hil
    have HRg := Ho (range2 (HU.o.1.cell k1) (HU.o.1.cell k2))
    have HTk := Ho (List.take_succ_eq_append_getElem hil)
    have HMm := Ho (List.getElem_mem hil)
    obtain ⟨f, hf⟩ := ny (fs[i])
    rw [hf] at HRg HTk HMm
    have h5 := HT.o (i + 1)
    rw [HTk.o, szs_snoc] at h5
    unfold szf at h5
    clear hf k1 k2
    go_wp2_with (with_reducible refine sI 36 ?_)
    show wpList _ _ _ _ _ _
    refine wpList_val7 (.pointer (some ⟨b, off + i * 2, none⟩)) rfl (exec_idxFd i hil rfl rfl rfl) ?_
    simp only [Act.put, pB, pC, pD]
    refine wpList_load_mid rfl _ _ rfl b (off + i * 2) rfl [.string f.n, .string f.v] _ HRg.o Tryz.underlying89 rfl infoFd2 ?_
    simp only [Act.put, pB, pC, pD]
    have HAt := Ho (at_new wr 89 [.string f.n, .string f.v])
    have HUa := Ho (HU.o.1.alloc (.cells [.string f.n, .string f.v].toArray 89))
    have hfn : f.n.size ≤ 1099511627776 := by omega
    have hfv : f.v.size ≤ 1099511627776 := by omega
    go_wp2_with (with_reducible refine sL 89 ?_)
    show wpList _ _ _ _ _ _
    refine wpList_load_mid rfl _ _ rfl wr.heap.size 0 rfl [.string f.n, .string f.v] _ HAt.o.range Tryz.underlying89 rfl infoFd2 ?_
    simp only [Act.put, pB, pC, pD]
    go_wp2_with fail
    refine (mayBeField_walk f.n f.v hfn hfv _).mono ?_
    rintro e w5 ⟨rfl, u5⟩
    have HU5 := Ho (HUa.o.trans u5)
    clear u5 HAt
    dsimp only
    cases hm : (tok f.n.data.toList && vlu f.v.data.toList) with
    | false =>
     have HE := Ho (show rv = ev (ad 5) by rw [HR2.o, if_pos (List.all_eq_false.2 ⟨f, HMm.o, by simp [mbf, hm]⟩)]; rfl)
     have hgl : w5.cell? ⟨15, 0, none⟩ = _ := (HG.o.up HU5.o).gl 5 (by decide)
     clear hm
     go_wp2
     go_ret
     rw [HE.o]
     exact ⟨rfl, HU5.o⟩
    | true =>
     have HA2 := Ho (show (fs.take (i + 1)).all mbf = true by rw [HTk.o, List.all_append, HU.o.2]; simp [mbf, hm])
     clear hm
     go_wp2
     go_roundw
     all_goals first
      | exact ⟨i + 1, by go_num, by omega, Ho ⟨HU5.o, HA2.o⟩⟩
      | (simp [intOf]; omega)
  have hilz : ¬ (i : Int) < (fs.length : Int) := by omega
  have HTk := Ho (show fs.take i = fs from List.take_of_length_le (by omega))
  have HE := Ho (show rv = .nilIface by
   have h1 := HU.o.2
   rw [HTk.o] at h1
   rw [HR2.o, if_neg (by rw [h1]; simp)]
   rfl)
  go_wp2
  go_ret
  rw [HE.o]
  exact ⟨rfl, HU.o.1⟩
def vtx (m : Int) : List UInt8 := [72, 84, 84, 80, 47, 49, 46] ++ Go.Lib.itoa m
set_option maxRecDepth 100000 in
theorem versionText_walk (m : Int) (h0 : -9223372036854775808 ≤ m) (h1 : m ≤ 9223372036854775807) (w : World) (hN : GN w) : Calls Tryz.prog 57 #[.int .i64 m] w fun e w' => e = .returned (vs (vtx m)) ∧ Up w w' := by
 have HF := Ho (FormatNumber_walk m h0 h1 w hN)
 have hlen : ¬ 9223372036854775807 < 7 + (Go.Lib.itoa m).length := by have := itoa_len m h0 h1; omega
 clear hN
 go_enter Tryz.func57, Tryz.ntmps57
 go_wp2_with fail
 refine HF.o.mono ?_
 rintro e w2 ⟨rfl, h9⟩
 have HU := Ho h9
 clear h9
 dsimp only
 go_wp2
 go_ret
 refine ⟨?_, HU.o⟩
 show Ending.returned (Value.string (_ ++ _)) = _
 rw [ba_app]
 simp [vtx]
def mnr (m : Int) : Bool := m == 0 || m == 1
set_option maxRecDepth 100000 in
theorem isMinor_walk (m : Int) (w : World) : Calls Tryz.prog 104 #[.int .i64 m] w fun e w' => e = .returned (.bool (mnr m)) ∧ w' = w := by
 cases h0 : (m == 0) with
 | true =>
  go_enter Tryz.func104, Tryz.ntmps104
  go_wp2
  go_ret
  exact ⟨by unfold mnr; rw [h0]; rfl, rfl⟩
 | false =>
  go_enter Tryz.func104, Tryz.ntmps104
  go_wp2
  go_ret
  exact ⟨by unfold mnr; rw [h0]; rfl, rfl⟩
def ctlN : ByteArray := ⟨#[67, 111, 110, 116, 101, 110, 116, 45, 76, 101, 110, 103, 116, 104]⟩
def lnf (n : Nat) : FD := ⟨ctlN, ⟨(Go.Lib.itoa (n : Int)).toArray⟩⟩
set_option maxRecDepth 100000 in
theorem lengthOf_walk (a : Option Addr) (n c : Nat) (hn : n ≤ 1099511627776) (w : World) (hN : GN w) : Calls Tryz.prog 53 #[.slice a n c] w fun e w' => e = .returned (.agg #[.string (lnf n).n, .string (lnf n).v]) ∧ Up w w' := by
 have HU0 := Ho ((Up.refl w).alloc (.cells #[.string ⟨#[]⟩, .string ⟨#[]⟩] 89))
 have HA0 := Ho (at_new w 89 [.string ⟨#[]⟩, .string ⟨#[]⟩])
 have HF := Ho (FormatNumber_walk (n : Int) (by omega) (by omega) _ (hN.up HU0.o))
 clear hN
 go_enter Tryz.func53, Tryz.ntmps53
 go_wp2_with fail
 refine HF.o.mono ?_
 rintro e w2 ⟨rfl, h9⟩
 have HU2 := Ho (HU0.o.trans h9)
 have HA2 := Ho (HA0.o.up h9)
 clear h9
 dsimp only
 go_wp2_with (with_reducible refine sS 89 ?_)
 show wpList _ _ _ _ _ _
 refine wpList_store_at rfl 89 _ _ rfl w.heap.size HA2.o [.string (lnf n).n, .string (lnf n).v] rfl rfl rfl (by kernel_rfl) (by kernel_rfl) ?_
 intro w8 hA8 hg8
 have HA8 := Ho hA8
 have HU8 := Ho (HU2.o.bz hg8)
 clear hA8 hg8
 simp only [Act.put]
 repeat go_step
 refine bodyPost_ret (results_agg1 Tryz.results53 _ _ w.heap.size [.string (lnf n).n, .string (lnf n).v] rfl HA8.o.range Tryz.underlying89 rfl (by kernel_rfl)) rfl ?_
 exact ⟨rfl, HU8.o⟩
def kep (f : FD) : Bool := !(kdf f.n == 3 || kdf f.n == 4)
def tfd (f : FD) : FD := ⟨f.n, ⟨(trm f.v.data.toList).toArray⟩⟩
def pfs (fs : List FD) : List FD := (fs.filter kep).map tfd
theorem pfs_yes {fs : List FD} {f : FD} (h : kep f = true) : pfs (fs ++ [f]) = pfs fs ++ [tfd f] := by simp [pfs, h]
theorem pfs_no {fs : List FD} {f : FD} (h : kep f = false) : pfs (fs ++ [f]) = pfs fs := by simp [pfs, h]
theorem szs_pfs : ∀ fs : List FD, szs (pfs fs) ≤ szs fs
 | [] => Nat.le_refl _
 | f :: r => by
  have h := szs_pfs r
  have e : szs (f :: r) = szf f + szs r := by simp [szs]; omega
  cases hk : kep f with
  | true =>
   have e2 : pfs (f :: r) = tfd f :: pfs r := by simp [pfs, hk]
   have e3 : szs (tfd f :: pfs r) = szf (tfd f) + szs (pfs r) := by simp [szs]; omega
   have h4 : szf (tfd f) ≤ szf f := by
    unfold szf tfd
    have h5 := trm_len f.v.data.toList
    have h6 : (⟨(trm f.v.data.toList).toArray⟩ : ByteArray).size = (trm f.v.data.toList).length := by simp [ByteArray.size]
    have h7 := Go.Lib.size_eq f.v
    show f.n.size + (⟨(trm f.v.data.toList).toArray⟩ : ByteArray).size + 4 ≤ _
    omega
   rw [e, e2, e3]
   omega
  | false =>
   have e2 : pfs (f :: r) = pfs r := by simp [pfs, hk]
   rw [e, e2]
   omega
theorem pfs_len (fs : List FD) : (pfs fs).length ≤ fs.length := by
 unfold pfs
 rw [List.length_map]
 exact List.length_filter_le _ _
set_option maxRecDepth 100000 in
set_option maxHeartbeats 2000000 in
theorem printedFields_walk (a : Option Addr) (fs : List FD) (c : Nat) (w : World) (h : FdL w a fs c) (hl : szs fs ≤ 1099511627776) (hK : w.rangeAt 13 0 kdC) :
  Calls Tryz.prog 52 #[.slice a fs.length c] w fun e w' => (∃ a2 c2, e = .returned (.slice a2 (pfs fs).length c2) ∧ Hd (FdO w' w.heap.size a2 (pfs fs) c2)) ∧ Up w w' := by
 have HF := Ho h
 have HKd := Ho hK
 have hcap := h.cap
 have hsl := szs_len fs
 have HZ := Ho (fun i => Nat.le_trans (szs_take fs i) hl)
 clear h hK hl
 have hfl : fs.length ≤ 1099511627776 := by have := HZ.o fs.length; rw [List.take_length] at this; omega
 clear hsl
 go_enter Tryz.func52, Tryz.ntmps52
 go_wp2
 go_loopw [3, 8] (fun v3 v8 wr => ∃ i : Nat, v8 = .int .i64 (i : Int) ∧ i ≤ fs.length ∧ ∃ q a7 c7, v3 = .slice a7 q c7 ∧ q ≤ i ∧ Hd (FdO wr w.heap.size a7 (pfs (fs.take i)) c7 ∧ Up w wr ∧ (pfs (fs.take i)).length = q)) (fun _ v8 _ => fs.length - (intOf v8).toNat)
 case atStart => exact ⟨0, rfl, Nat.zero_le _, 0, none, 0, rfl, Nat.le_refl _, Ho ⟨World.ownsRow_nil _ _ _ _, Up.refl _, rfl⟩⟩
 case round =>
  obtain ⟨i, rfl, hi, q, a7, c7, rfl, hqi, hU⟩ := hrel
  have HQ := Ho hU.o
  clear hU
  by_cases hil : i < fs.length
  · have hilz : (i : Int) < (fs.length : Int) := by omega
    obtain ⟨b, off, rfl, k1, k2⟩ := HF.o.cells i hil
    have HRg := Ho (range2 (HQ.o.2.1.cell k1) (HQ.o.2.1.cell k2))
    have HT := Ho (List.take_succ_eq_append_getElem hil)
    obtain ⟨f, hf⟩ := ny (fs[i])
    rw [hf] at HRg HT
    have h5 := HZ.o (i + 1)
    rw [HT.o, szs_snoc] at h5
    unfold szf at h5
    have hfv : f.v.size ≤ 4611686018427387904 := by omega
    have HLn := Ho HQ.o.2.2
    clear hf k1 k2 h5
    go_wp2_with (with_reducible refine sI 36 ?_)
    show wpList _ _ _ _ _ _
    refine wpList_val7 (.pointer (some ⟨b, off + i * 2, none⟩)) rfl (exec_idxFd i hil rfl rfl rfl) ?_
    simp only [Act.put, pB, pC, pD]
    refine wpList_load_mid rfl _ _ rfl b (off + i * 2) rfl [.string f.n, .string f.v] _ HRg.o Tryz.underlying89 rfl infoFd2 ?_
    simp only [Act.put, pB, pC, pD]
    have HAt := Ho (at_new wr 89 [.string f.n, .string f.v])
    have HUr := Ho ((Up.refl wr).alloc (.cells [.string f.n, .string f.v].toArray 89))
    have HNb := Ho (show (Value.slice a7 q c7).ownBlock ≠ some wr.heap.size from fun e => by
     have h1 := HQ.o.1
     unfold FdO at h1
     rw [HLn.o] at h1
     have h2 := World.ownsRow.lt h1 wr.heap.size e
     omega)
    go_wp2_with (with_reducible refine sL 89 ?_)
    show wpList _ _ _ _ _ _
    refine wpList_load_mid rfl _ _ rfl wr.heap.size 0 rfl [.string f.n, .string f.v] _ HAt.o.range Tryz.underlying89 rfl infoFd2 ?_
    simp only [Act.put, pB, pC, pD]
    go_wp2_with fail
    refine (kindOf_walk f.n f.v _ (range_up HKd.o (HQ.o.2.1.trans HUr.o))).mono ?_
    rintro e w4 ⟨rfl, u5⟩
    have HU4 := Ho ((HQ.o.2.1.trans HUr.o).trans u5)
    have HAt4 := Ho (HAt.o.up u5)
    have HO4 := Ho (ow_up (ow_up HQ.o.1 HUr.o) u5)
    clear u5 HAt HRg HUr HQ
    dsimp only
    cases h3 : (kdf f.n == 3) with
    | true =>
     have HS7 := Ho (show pfs (fs.take (i + 1)) = pfs (fs.take i) by rw [HT.o, pfs_no (by simp [kep, h3])])
     have HO8 := Ho (show FdO w4 w.heap.size a7 (pfs (fs.take (i + 1))) c7 by rw [HS7.o]; exact HO4.o)
     have HL8 := Ho (show (pfs (fs.take (i + 1))).length = q by rw [HS7.o]; exact HLn.o)
     go_wp2
     go_roundw
     all_goals first
      | exact ⟨i + 1, by go_num, by omega, q, a7, c7, rfl, by omega, Ho ⟨HO8.o, HU4.o, HL8.o⟩⟩
      | (simp [intOf]; omega)
    | false =>
     cases h4 : (kdf f.n == 4) with
     | true =>
      have HS7 := Ho (show pfs (fs.take (i + 1)) = pfs (fs.take i) by rw [HT.o, pfs_no (by simp [kep, h3, h4])])
      have HO8 := Ho (show FdO w4 w.heap.size a7 (pfs (fs.take (i + 1))) c7 by rw [HS7.o]; exact HO4.o)
      have HL8 := Ho (show (pfs (fs.take (i + 1))).length = q by rw [HS7.o]; exact HLn.o)
      go_wp2
      go_roundw
      all_goals first
       | exact ⟨i + 1, by go_num, by omega, q, a7, c7, rfl, by omega, Ho ⟨HO8.o, HU4.o, HL8.o⟩⟩
       | (simp [intOf]; omega)
     | false =>
      have HT2 := Ho (show pfs (fs.take (i + 1)) = pfs (fs.take i) ++ [tfd f] by rw [HT.o, pfs_yes (by simp [kep, h3, h4])])
      have HL7 := Ho (show (pfs (fs.take (i + 1))).length = q + 1 by rw [HT2.o, List.length_append, HLn.o]; rfl)
      go_wp2
      refine wp_region_held_drew (S := fun w2 => At w2 wr.heap.size 89 [.string f.n, .string f.v] ∧ Up w w2) (by kernel_rfl) ⟨HAt4.o.up (Up.refl _).drew, HU4.o.drew⟩ (fun hS => ?_)
      refine tN 0 (some 14) (.move (.tmp 3)) 36 (.slice a7 q c7) hS ?_
      simp only [pA, pB, pC, pD]
      refine tN 1 (some 15) (.fieldAddr 89 (.tmp 5) 0) 0 (.pointer (some ⟨wr.heap.size, 0, none⟩)) hS ?_
      simp only [pA, pB, pC, pD]
      refine tK 2 (some 16) (.load 9 (.tmp 15)) 9 (.string f.n) hS ?_ ?_
      · intro _ _ w5 hSw
        have h0 := hSw.1.cell (i := 0) rfl
        clear hSw hS
        go_simp
      simp only [pA, pB, pC, pD]
      refine tN 3 (some 17) (.fieldAddr 89 (.tmp 5) 1) 0 (.pointer (some ⟨wr.heap.size, 1, none⟩)) hS ?_
      simp only [pA, pB, pC, pD]
      refine tK 4 (some 18) (.load 9 (.tmp 17)) 9 (.string f.v) hS ?_ ?_
      · intro _ _ w5 hSw
        have h0 := hSw.1.cell (i := 1) rfl
        clear hSw hS
        go_simp
      simp only [pA, pB, pC, pD]
      refine rD 5 (some 19) (.call ⟨.value (.func 98), #[.tmp 18], #[9]⟩) 9 fun _ _ K hK => ?_
      rw [if_pos (by kernel_rfl)]
      go_simp
      refine (trim_walk f.v hfv w4.drew).mono ?_
      rintro e w6 ⟨rfl, h9⟩
      have HU6 := Ho (HU4.o.drew.trans h9)
      have HAt6 := Ho ((HAt4.o.up (Up.refl _).drew).up h9)
      have HO6 := Ho (ow_up (ow_up HO4.o (Up.refl _).drew) h9)
      have HVt := Ho (show vs (trm f.v.data.toList) = .string (tfd f).v from rfl)
      clear h9 hS
      rw [HVt.o]
      dsimp only
      refine hK.out _ _ ⟨HAt6.o, HU6.o⟩ (fun hS => ?_)
      clear hK K
      refine tN 6 (some 20) (.build 89 #[(0, .tmp 16), (1, .tmp 19)]) 89 (.agg #[.string f.n, .string (tfd f).v]) hS ?_
      simp only [Act.put, pB, pC, pD]
      refine rD 7 (some 21) (.buildSlice 36 1 #[(0, .tmp 20)]) 36 fun _ _ K hK => ?_
      rw [if_pos (by kernel_rfl)]
      go_simp
      refine hK.out _ _ ⟨hS.1.up ((Up.refl _).alloc _), hS.2.alloc _⟩ (fun hS => ?_)
      clear hK K
      refine rD 8 (some 22) (.call ⟨.builtin .append, #[.tmp 14, .tmp 21], #[36, 36]⟩) 36 fun _ _ K hK => oper_of_list ?_
      refine wpList_appFd (w := w6) (N := w.heap.size) rfl _ _ rfl a7 c7 (pfs (fs.take i)) (tfd f) HLn.o rfl rfl HO6.o HU6.o.size (by omega) ?_
      intro ax2 cx2 w7 o7 u7 g7
      have HO7 := Ho (show FdO w7 w.heap.size ax2 (pfs (fs.take (i + 1))) cx2 by rw [HT2.o]; exact o7)
      have HU7 := Ho (u7 w HU6.o (Nat.le_refl _))
      have HAt7 := Ho (HAt6.o.by g7 (HNb.o))
      clear o7 u7 g7
      refine hK.out _ _ ⟨HAt7.o, HU7.o⟩ (fun hS => ?_)
      clear hK K
      simp only [Act.put, pB, pC, pD]
      refine tN 9 (some 3) (.assign (.tmp 22)) 36 (.slice ax2 (q + 1) cx2) hS ?_
      simp only [pA, pB, pC, pD]
      clear hS
      refine wpAnyH_done (by kernel_rfl) ?_ _
      go_wp2
      go_roundw
      all_goals first
       | exact ⟨i + 1, by go_num, by omega, q + 1, ax2, cx2, rfl, by omega, Ho ⟨HO7.o, HU7.o, HL7.o⟩⟩
       | (simp [intOf]; omega)
  have hilz : ¬ (i : Int) < (fs.length : Int) := by omega
  have HTk := Ho (show fs.take i = fs from List.take_of_length_le (by omega))
  rw [HTk.o] at HQ
  go_wp2
  go_ret
  exact ⟨⟨a7, c7, by rw [HQ.o.2.2]; rfl, Ho HQ.o.1⟩, HQ.o.2.1⟩
theorem byteCells_cb (m : List UInt8) : byteCells ⟨m.toArray⟩ = cb m := by simp [byteCells, cb]
theorem str_szm (m : List UInt8) : (⟨m.toArray⟩ : ByteArray).size = m.length := by simp [ByteArray.size]
theorem run_app_str {w : World} {B : Nat} {v : Value} {l : List UInt8} (m : List UInt8) (ty : TypeId) (hown : Ow w B v l) (hn : l.length + m.length ≤ 140737488355328) (hB : B ≤ w.heap.size) :
  ∃ v' w', (Builtin.append_ #[22, 9] ty #[v, .string ⟨m.toArray⟩]).run Tryz.prog w = .ok v' w' ∧ Ow w' B v' (l ++ m) ∧ Below B w w' := by
 obtain ⟨i, hi, hz, hsize, hby⟩ := info_parts Tryz.infoU8
 have ht : Tryz.prog.underlying 22 = some (.slice 5) := Tryz.underlying22
 have hs0 : Src Tryz.prog 1 9 (.string ⟨m.toArray⟩) (⟨m.toArray⟩ : ByteArray).size (byteCells ⟨m.toArray⟩) w := Src.ofString w Tryz.underlying9 ⟨m.toArray⟩
 rw [byteCells_cb, str_szm] at hs0
 have hs : Src Tryz.prog i.size 9 (.string ⟨m.toArray⟩) m.length (cb m) w := by rw [hsize]; exact hs0
 have hlen : (cb l ++ cb m).length = l.length + m.length := by simp [cb]
 have grown : ∀ (old : Nat), old < l.length + m.length →
   (w.drew.alloc (.cells ((cb l ++ cb m).toArray ++ Builtin.zeroCells (Value.int .u8 0).cells (grownCap w (l.length + m.length) old 5 - (l.length + m.length))) 5)).ownsRow B 5 1
    (.slice (some ⟨w.heap.size, 0, none⟩) (l.length + m.length) (grownCap w (l.length + m.length) old 5)) (l.length + m.length) (cb l ++ cb m) := by
  intro old ho
  have hge := grownCap_ge w (l.length + m.length) old 5
  have hcm : grownCap w (l.length + m.length) old 5 ≤ maxLen := grownCap_le_maxLen w _ old _ (by unfold maxLen; omega)
  refine ⟨by rw [hlen, Nat.mul_one], .inr ⟨w.heap.size, _, _, rfl, hB, heap_alloc_new w.drew _, hge, hcm, ?_, ?_⟩⟩
  · simp only [Array.size_append, List.size_toArray, size_zeroCells, hlen]
    simp [Value.cells]
    omega
  simp only [Array.toList_append]
  rw [Nat.mul_one, ← hlen]
  exact List.take_left
 have fin : ∀ {v' : Value} {w' : World}, w'.ownsRow B 5 1 v' (l.length + m.length) (cb l ++ cb m) → Ow w' B v' (l ++ m) := by
  intro v' w' h
  unfold Ow
  rw [List.length_append, cb_append]; exact h
 have up : ∀ o, Below B w (w.drew.alloc o) := fun o => Below.alloc (Below.drew (Below.refl B w)) hB o
 rcases hown.2 with ⟨rfl, e0⟩ | ⟨g, cap, cur, rfl, hbg, hg, hnc, hcm, hcs, htake⟩
 · have hl : l = [] := List.eq_nil_of_length_eq_zero e0
   subst hl
   by_cases hm : m = []
   · subst hm
     refine ⟨.slice none 0 0, w, ?_, hown, Below.refl _ _⟩
     have hk : Tryz.prog.underlying 9 = some .string := Tryz.underlying9
     simp [Builtin.append_, run_underlying ht, run_underlying hk, sizeOf, typeInfo, hi, Builtin.lenOf, Builtin.firstCells]
     rw [if_pos (show (⟨#[]⟩ : ByteArray) = ByteArray.empty from rfl)]
     rfl
   have hp : 0 < m.length := List.length_pos_iff.2 hm
   have hr := run_append_grow_src (P := Tryz.prog) w 22 9 ty 5 i _ ht hi hz none 0 0 [] (run_firstCells_none w.drew i.size 0 0 0) _ m.length (cb m) hs (by omega) (by simp at hn; omega) (growslice_fits (by omega) (by rw [hby]; simp at hn; omega))
   have hgr := grown 0 (by simpa using hp)
   simp only [List.length_nil] at hgr fin
   exact ⟨_, _, hr, fin hgr, up _⟩
 by_cases hroom : l.length + m.length ≤ cap
 · have hfit : l.length * 1 + (cb m).length ≤ cur.size := by rw [hcs, cb_length]; omega
   have hst := run_storeCells_at Tryz.prog g (l.length * i.size) 5 (cb m) 0 cur w hg (by rw [hsize]; simpa using hfit) (cb_one m)
   have hk : Tryz.prog.underlying 9 = some .string := Tryz.underlying9
   simp only [Nat.add_zero] at hst
   have hr : (Builtin.append_ #[22, 9] ty #[.slice (some ⟨g, 0, none⟩) l.length cap, .string ⟨m.toArray⟩]).run Tryz.prog w =
     .ok (.slice (some ⟨g, 0, none⟩) (l.length + m.length) cap) (w.setRow g (cur.toList.take (l.length * i.size) ++ cb m ++ cur.toList.drop (l.length * i.size + (cb m).length)).toArray) := by
    simp [Builtin.append_, run_underlying ht, run_underlying hk, sizeOf, typeInfo, hi, hs.len, hroom, hs.cells, Addr.add_lit, hst]
   refine ⟨_, _, hr, fin ⟨by rw [hlen, Nat.mul_one], .inr ⟨g, cap, _, rfl, hbg, setRow_heap w g cur _ 5 _ hg, hroom, hcm, ?_, ?_⟩⟩, ⟨rfl, rfl, rfl, by simp, fun k hk => setRow_other w g k _ (by omega)⟩⟩
   · simp only [List.size_toArray, List.length_append, List.length_take, List.length_drop, Array.length_toList, cb_length, hsize]
     omega
   rw [hsize, htake, ← Nat.mul_one (l.length + m.length), Nat.mul_one, ← hlen]
   simp only [Nat.mul_one]
   exact List.take_left
 have holds : ∀ j u, (cb l)[j]? = some u → w.cell? ((⟨g, 0, none⟩ : Addr).add j) = some u := World.ownsRow.cells hown (g := g) rfl
 have hold := run_firstCells_some (P := Tryz.prog) w.drew i.size l.length ⟨g, 0, none⟩ l.length cap (cb l) (by rw [hsize, cb_length, Nat.mul_one]) (by simpa using holds)
 have hr := run_append_grow_src (P := Tryz.prog) w 22 9 ty 5 i _ ht hi hz (some ⟨g, 0, none⟩) l.length cap (cb l) hold _ m.length (cb m) hs (by omega) (by omega) (growslice_fits (by omega) (by rw [hby]; omega))
 exact ⟨_, _, hr, fin (grown cap (by omega)), up _⟩
theorem wpList_mk {ops : Array Oper} {rest : List Oper} {o : Oper} {a : Act} {w : World} {Q : Exit → Act → World → Prop} (hg : o.guard = none) (l c : Operand) (hop : o.op = Op.makeSlice 22 l c)
  (kl kc : IntKind) (C : Int) (n : Nat) (hl : a.eval l = .int kl 0) (hc : a.eval c = .int kc C) (hC : C = (n : Int)) (hn : n ≤ 140737488355328)
  (hK : ∀ w', Ow w' w.heap.size (.slice (some ⟨w.heap.size, 0, none⟩) 0 n) [] → Up w w' → wpList Tryz.prog ops Q rest (a.put o.dst (.slice (some ⟨w.heap.size, 0, none⟩) 0 n)) w') : wpList Tryz.prog ops Q (o :: rest) a w := by
 obtain ⟨i0, hi, hz0, hz1, hz2⟩ := info_parts Tryz.infoU8
 refine wpList_make_own w hg l c 22 hop w.heap.size 5 i0 (.int .u8 0) 1 Tryz.underlying22 hi hz0 hz1 kl kc C n hl hc hC (by rw [hz2]; omega) (by unfold maxLen; omega) (Nat.le_refl _) ?_
 intro w' h1 h2
 exact hK w' h1 ((Below.refl _ w).grown h2 (Nat.le_refl _) (fun k hk => by cases hk))
theorem wpList_appStr {w : World} {N q : Nat} {ops : Array Oper} {rest : List Oper} {o : Oper} {a : Act} {Q : Exit → Act → World → Prop} (hgd : o.guard = none) (x y : Operand)
  (ho : o.op = .call { callee := .builtin .append, args := #[x, y], argTypes := #[22, 9] }) (ax : Option Addr) (cx : Nat) (xs : List UInt8) (s : ByteArray) (m : List UInt8) (hx : a.eval x = .slice ax q cx) (hy : a.eval y = .string s) (hm : s.data.toList = m)
  (hq : xs.length = q) (hR : Ow w N (.slice ax q cx) xs) (hNw : N ≤ w.heap.size) (hql : q + m.length ≤ 1099511627776)
  (K : ∀ ax2 cx2 w', Ow w' N (.slice ax2 (q + m.length) cx2) (xs ++ m) → (∀ W, Up W w → W.heap.size ≤ N → Up W w') → wpList Tryz.prog ops Q rest (a.put o.dst (.slice ax2 (q + m.length) cx2)) w') :
  wpList Tryz.prog ops Q (o :: rest) a w := by
 refine wpList_plain hgd fun K2 hK => ?_
 obtain ⟨v', w', hr, h2, h3⟩ := run_app_str m o.type hR (by omega) hNw
 have hy2 : a.eval y = .string ⟨m.toArray⟩ := by rw [hy, ← hm]
 obtain ⟨a2, c2, rfl⟩ : ∃ a2 c2, v' = .slice a2 (q + m.length) c2 := by
  have hl : (xs ++ m).length = q + m.length := by rw [List.length_append, hq]
  unfold Ow at h2
  rw [hl] at h2
  obtain ⟨a4, c4, e4⟩ := row_len h2
  exact ⟨a4, c4, e4⟩
 unfold Oper.wp execOp
 simp only [ho, resolve, invoke, builtin, Sem.run_bind, Sem.run_pure, Result.andThen_ok, List.map_toArray, List.map_cons, List.map_nil, hx, hy2, hr]
 exact hK _ _ (K a2 c2 w' h2 (fun W hU hW => Below.trans (B := W.heap.size) hU (h3.mono hW)))
def lnb (f : FD) : List UInt8 := f.n.data.toList ++ [58, 32] ++ f.v.data.toList ++ [13, 10]
def lbs (fs : List FD) : List UInt8 := fs.flatMap lnb
def prt (st : List UInt8) (fs : List FD) (bd : List UInt8) : List UInt8 := (((st ++ [13, 10]) ++ lbs fs) ++ [13, 10]) ++ bd
theorem lnb_len (f : FD) : (lnb f).length = szf f := by
 have h1 := Go.Lib.size_eq f.n
 have h2 := Go.Lib.size_eq f.v
 simp only [lnb, List.length_append, List.length_cons, List.length_nil]
 unfold szf
 omega
theorem lbs_len : ∀ fs : List FD, (lbs fs).length + 2 = szs fs
 | [] => rfl
 | f :: r => by
  have h := lbs_len r
  have e : szs (f :: r) = szf f + szs r := by simp [szs]; omega
  have e2 : lbs (f :: r) = lnb f ++ lbs r := by simp [lbs]
  rw [e, e2, List.length_append, lnb_len]
  omega
theorem lbs_snoc (fs : List FD) (f : FD) : lbs (fs ++ [f]) = lbs fs ++ lnb f := by simp [lbs]
theorem bat_app (a b : ByteArray) : (a ++ b).data.toList = a.data.toList ++ b.data.toList := by rw [ByteArray.data_append, Array.toList_append]
set_option maxRecDepth 100000 in
set_option maxHeartbeats 2000000 in
theorem printMessage_walk (s : ByteArray) (a : Option Addr) (fs : List FD) (c : Nat) (ab : Option Addr) (nb cb' : Nat) (bd : List UInt8) (w : World) (h : FdL w a fs c) (hb : Sb w (.slice ab nb cb') bd) (hs : s.size ≤ 1048576) (hl : szs fs ≤ 1048576) (hbl : bd.length ≤ 1048576) :
  Calls Tryz.prog 56 #[.string s, .slice a fs.length c, .slice ab nb cb'] w fun e w' => (∃ a2 c2, e = .returned (.slice a2 (prt s.data.toList fs bd).length c2) ∧ Hd (Ow w' w.heap.size (.slice a2 (prt s.data.toList fs bd).length c2) (prt s.data.toList fs bd))) ∧ Up w w' := by
 have HF := Ho h
 have HB := Ho hb
 obtain ⟨hbn, hbc, hbm⟩ := hb.len
 unfold maxLen at hbm
 have HBn := Ho hbn
 have hnb : nb ≤ 1048576 := by omega
 have hcap := h.cap
 have hsl := szs_len fs
 have HZ := Ho (fun i => szs_take fs i)
 have HSz := Ho (sizeOf_walk a fs c w h (by omega))
 have HLl := Ho (lbs_len fs)
 have HSs := Ho (Go.Lib.size_eq s)
 clear h hb hbn
 obtain ⟨z, hz⟩ := ny (szs fs)
 rw [hz] at hl hsl HZ HSz HLl
 clear hz
 have hlen2 : ¬ 9223372036854775807 < s.size + 2 := by omega
 go_enter Tryz.func56, Tryz.ntmps56
 go_wp2_with fail
 refine HSz.o.mono ?_
 rintro e w2 ⟨rfl, h9⟩
 have HU2 := Ho h9
 clear h9
 dsimp only
 go_wp2_with (with_reducible show wpList _ _ _ (⟨_, .makeSlice 22 _ _, _, _, _, _⟩ :: _) _ _; refine Shut.out ?_)
 show wpList _ _ _ _ _ _
 refine wpList_mk rfl _ _ rfl .i64 .i64 _ (s.size + 2 + z + nb) rfl rfl (by push_cast; rfl) (by omega) ?_
 intro w3 o3 u3
 have HO3 := Ho (show Ow w3 w.heap.size _ [] from ow_base o3 HU2.o.size)
 have HU3 := Ho (HU2.o.trans u3)
 clear o3 u3
 simp only [Act.put, pB, pC, pD]
 go_wp2_with (with_reducible refine sA ?_)
 show wpList _ _ _ _ _ _
 refine wpList_appStr (N := w.heap.size) rfl _ _ rfl _ _ [] (s ++ ⟨#[13, 10]⟩) (s.data.toList ++ [13, 10]) rfl rfl (bat_app s ⟨#[13, 10]⟩) rfl HO3.o HU3.o.size (by rw [List.length_append, ← HSs.o]; simp only [List.length_cons, List.length_nil]; omega) ?_
 intro a4 c4 w4 o4 u4
 have HP := Ho (show prt s.data.toList fs bd = (((s.data.toList ++ [13, 10]) ++ lbs fs) ++ [13, 10]) ++ bd from rfl)
 have hn4' : (s.data.toList ++ [13, 10]).length = s.size + 2 := by rw [List.length_append, ← HSs.o]; rfl
 generalize s.data.toList ++ [13, 10] = st2 at o4 HP hn4' ⊢
 obtain ⟨n4, hn4⟩ := ny (0 + st2.length)
 rw [hn4] at o4 ⊢
 have hn4z : n4 = s.size + 2 := by omega
 have HN4 := Ho (show st2.length = n4 by omega)
 have HO4 := Ho (show Ow w4 w.heap.size (.slice a4 n4 c4) st2 from o4)
 have HU4 := Ho (u4 w HU3.o (Nat.le_refl _))
 have hn4l : n4 ≤ 1048578 := by omega
 clear o4 u4 hn4 hn4' hn4z
 simp only [Act.put, pB, pC, pD]
 go_wp2
 go_loopw [7, 26] (fun v7 v26 wr => ∃ i : Nat, v26 = .int .i64 (i : Int) ∧ i ≤ fs.length ∧ ∃ q a7 c7, v7 = .slice a7 q c7 ∧ q ≤ 3145728 ∧ Hd (Ow wr w.heap.size (.slice a7 q c7) (st2 ++ lbs (fs.take i)) ∧ Up w wr ∧ (st2 ++ lbs (fs.take i)).length = q)) (fun _ v26 _ => fs.length - (intOf v26).toNat)
 case atStart => exact ⟨0, rfl, Nat.zero_le _, n4, a4, c4, rfl, by omega, Ho ⟨by rw [List.take_zero, show lbs [] = [] from rfl, List.append_nil]; exact HO4.o, HU4.o, by rw [List.take_zero, show lbs [] = [] from rfl, List.append_nil]; exact HN4.o⟩⟩
 case round =>
  obtain ⟨i, rfl, hi, q, a7, c7, rfl, hqi, hU⟩ := hrel
  have HQ := Ho hU.o
  clear hU
  by_cases hil : i < fs.length
  · have hilz : (i : Int) < (fs.length : Int) := by omega
    obtain ⟨b, off, rfl, k1, k2⟩ := HF.o.cells i hil
    have HRg := Ho (range2 (HQ.o.2.1.cell k1) (HQ.o.2.1.cell k2))
    have HT := Ho (List.take_succ_eq_append_getElem hil)
    obtain ⟨f, hf⟩ := ny (fs[i])
    rw [hf] at HRg HT
    have h5 := HZ.o (i + 1)
    have h6 := lbs_len (fs.take (i + 1))
    have h7 := HQ.o.2.2
    have h8 := HN4.o
    rw [List.length_append] at h7
    rw [HT.o, szs_snoc] at h5 h6
    rw [lbs_snoc, List.length_append, lnb_len] at h6
    have h9 := lnb_len f
    unfold szf at h5 h6 h9
    have hl1 : ¬ 9223372036854775807 < f.n.size + 2 := by omega
    have hl2 : ¬ 9223372036854775807 < f.n.size + 2 + f.v.size := by omega
    have hl3 : ¬ 9223372036854775807 < f.n.size + 2 + f.v.size + 2 := by omega
    have hq7 : q + (lnb f).length ≤ 3145728 := by omega
    have HLb := Ho (show (f.n ++ ⟨#[58, 32]⟩ ++ f.v ++ ⟨#[13, 10]⟩ : ByteArray).data.toList = lnb f by rw [bat_app, bat_app, bat_app]; rfl)
    have HS2 := Ho (show st2 ++ lbs (fs.take (i + 1)) = (st2 ++ lbs (fs.take i)) ++ lnb f by rw [HT.o, lbs_snoc, List.append_assoc])
    have HL2 := Ho (show (st2 ++ lbs (fs.take (i + 1))).length = q + (lnb f).length by rw [HS2.o, List.length_append, HQ.o.2.2])
    clear hf k1 k2 h5 h6 h7 h8 h9
    go_wp2_with (with_reducible refine sI 36 ?_)
    show wpList _ _ _ _ _ _
    refine wpList_val7 (.pointer (some ⟨b, off + i * 2, none⟩)) rfl (exec_idxFd i hil rfl rfl rfl) ?_
    simp only [Act.put, pB, pC, pD]
    refine wpList_load_mid rfl _ _ rfl b (off + i * 2) rfl [.string f.n, .string f.v] _ HRg.o Tryz.underlying89 rfl infoFd2 ?_
    simp only [Act.put, pB, pC, pD]
    have HUr := Ho ((Up.refl wr).alloc (.cells [.string f.n, .string f.v].toArray 89))
    have HUx := Ho (HQ.o.2.1.trans HUr.o)
    have HOx := Ho (ow_up HQ.o.1 HUr.o)
    go_wp2_with (with_reducible refine sA ?_)
    show wpList _ _ _ _ _ _
    refine wpList_appStr (N := w.heap.size) rfl _ _ rfl a7 c7 (st2 ++ lbs (fs.take i)) _ (lnb f) rfl rfl HLb.o HQ.o.2.2 HOx.o HUx.o.size (by omega) ?_
    intro a5 c5 w5 o5 u5
    have HO5 := Ho (show Ow w5 w.heap.size (.slice a5 (q + (lnb f).length) c5) (st2 ++ lbs (fs.take (i + 1))) by rw [HS2.o]; exact o5)
    have HU5 := Ho (u5 w HUx.o (Nat.le_refl _))
    clear o5 u5
    simp only [Act.put, pB, pC, pD]
    go_wp2
    go_roundw
    all_goals first
     | exact ⟨i + 1, by go_num, by omega, q + (lnb f).length, a5, c5, rfl, by omega, Ho ⟨HO5.o, HU5.o, HL2.o⟩⟩
     | (simp [intOf]; omega)
  have hilz : ¬ (i : Int) < (fs.length : Int) := by omega
  have HTk := Ho (show fs.take i = fs from List.take_of_length_le (by omega))
  rw [HTk.o] at HQ
  go_wp2_with (with_reducible refine sA ?_)
  show wpList _ _ _ _ _ _
  refine wpList_appStr (N := w.heap.size) rfl _ _ rfl a7 c7 (st2 ++ lbs fs) ⟨#[13, 10]⟩ [13, 10] rfl rfl rfl HQ.o.2.2 HQ.o.1 HQ.o.2.1.size (by simp only [List.length_cons, List.length_nil]; omega) ?_
  intro a5 c5 w5 o5 u5
  have HO5 := Ho o5
  have HU5 := Ho (u5 w HQ.o.2.1 (Nat.le_refl _))
  have HN5 := Ho (show ((st2 ++ lbs fs) ++ [13, 10]).length = q + 2 by rw [List.length_append, HQ.o.2.2]; rfl)
  clear o5 u5
  have e2 : q + [13, (10 : UInt8)].length = q + 2 := rfl
  rw [e2] at HO5 ⊢
  clear e2
  simp only [Act.put, pB, pC, pD]
  go_wp2_with (with_reducible refine sA ?_)
  show wpList _ _ _ _ _ _
  refine wpList_appSb (N := w.heap.size) rfl _ _ rfl a5 c5 ((st2 ++ lbs fs) ++ [13, 10]) _ bd rfl rfl (HB.o.up HU5.o) (by have := HO5.o; unfold Ow at this; rw [HN5.o] at this; exact this) HU5.o.size (by omega) ?_
  intro a6 c6 w6 o6 u6
  have HU6 := Ho (u6 w HU5.o (Nat.le_refl _))
  have HN6 := Ho (show (prt s.data.toList fs bd).length = q + 2 + bd.length by rw [HP.o, List.length_append, HN5.o])
  have HO6 := Ho (show Ow w6 w.heap.size (.slice a6 (prt s.data.toList fs bd).length c6) (prt s.data.toList fs bd) by unfold Ow; rw [HN6.o, HP.o]; exact o6)
  clear o6 u6
  simp only [Act.put, pB, pC, pD]
  go_wp2
  go_ret
  exact ⟨⟨a6, c6, by rw [HN6.o]; rfl, Ho HO6.o⟩, HU6.o⟩
def ckq (m t : ByteArray) (mi : Int) (fs : List FD) (nb : Nat) : Option Nat :=
 if 8000 < m.size + 1 + t.size + 1 + (vtx mi).length then some 9 else if 16384 < szs fs then some 1 else if tok m.data.toList = false then some 3 else if tgt t.data.toList = false then some 3 else if mtk m = false then some 10 else if mnr mi = false then some 4 else
  match ckf fs with
  | some k => some k
  | none => match ckh fs mi with
    | some k => some k
    | none => if 1048576 < nb then some 7 else none
theorem vtx_len (mi : Int) (h0 : -9223372036854775808 ≤ mi) (h1 : mi ≤ 9223372036854775807) : (vtx mi).length ≤ 64 := by
 have := itoa_len mi h0 h1
 unfold vtx
 rw [List.length_append]
 simp only [List.length_cons, List.length_nil]
 omega
theorem ev_neq (ad : Nat → Addr) (k : Nat) : ∀ w, (binOp .neq 106 (ev (ad k)) .nilIface).run Tryz.prog w = .ok (.bool true) w := by
 intro w
 kernel_rfl
theorem szs_mem : ∀ (fs : List FD) {f : FD}, f ∈ fs → f.n.size + f.v.size ≤ szs fs
 | g :: r, f, h => by
  have e : szs (g :: r) = szf g + szs r := by simp [szs]; omega
  rw [e]
  rcases List.mem_cons.1 h with rfl | h
  · unfold szf
    omega
  have := szs_mem r h
  omega
set_option maxRecDepth 100000 in
set_option maxHeartbeats 4000000 in
theorem checkRequest_walk (ad : Nat → Addr) (m t : ByteArray) (mi : Int) (af : Option Addr) (nf cf : Nat) (ab : Option Addr) (nb cb' : Nat) (cl : Bool) (a : Option Addr) (fs : List FD) (c : Nat) (w : World) (h : FdL w a fs c) (hG : GW w ad) (hm : m.size ≤ 1099511627776) (ht : t.size ≤ 1099511627776)
  (hm0 : -9223372036854775808 ≤ mi) (hm1 : mi ≤ 9223372036854775807) (hl : szs fs ≤ 1099511627776) (hnb : nb ≤ 1099511627776) :
  Calls Tryz.prog 54 #[.agg #[.string m, .string t, .int .i64 mi, .slice af nf cf, .slice ab nb cb', .bool cl], .slice a fs.length c] w fun e w' => e = .returned (eoV ad (ckq m t mi fs nb)) ∧ Up w w' := by
 have HF := Ho h
 have HW := Ho hG
 have hcap := h.cap
 have hsl := szs_len fs
 have hvl := vtx_len mi hm0 hm1
 have HVz := Ho (show (⟨(vtx mi).toArray⟩ : ByteArray).size = (vtx mi).length from by simp [ByteArray.size])
 clear h hG
 obtain ⟨q6, hq6⟩ := ny ([.string m, .string t, .int .i64 mi, .slice af nf cf, .slice ab nb cb', .bool cl] : List Value)
 have HA0 := Ho (at_new w 48 [.string m, .string t, .int .i64 mi, .slice af nf cf, .slice ab nb cb', .bool cl])
 have HU0 := Ho ((Up.refl w).alloc (.cells [.string m, .string t, .int .i64 mi, .slice af nf cf, .slice ab nb cb', .bool cl].toArray 48))
 obtain ⟨rv, hrv⟩ := ny (eoV ad (ckq m t mi fs nb))
 rw [hrv]
 unfold ckq at hrv
 have HR := Ho hrv
 clear hrv
 obtain ⟨z, hz⟩ := ny (szs fs)
 have HSz := Ho (fun w (hF : FdL w a fs c) => sizeOf_walk a fs c w hF hl)
 have HCf := Ho (fun w (hF : FdL w a fs c) (hE : GE w ad) => checkFields_walk ad a fs c w hF hl hE)
 have HMe := Ho (fun (f : FD) => szs_mem fs (f := f))
 rw [hz] at HR hl hsl HSz HMe
 clear hz
 have HVx := Ho (show vs (vtx mi) = .string ⟨(vtx mi).toArray⟩ from rfl)
 generalize hvt : (⟨(vtx mi).toArray⟩ : ByteArray) = vt at HVx HVz
 generalize (vtx mi).length = vl at *
 clear hvt
 clear hq6 q6
 go_enter Tryz.func54, Tryz.ntmps54
 go_wp2
 obtain ⟨w1, hw1⟩ := ny (w.alloc (.cells [.string m, .string t, .int .i64 mi, .slice af nf cf, .slice ab nb cb', .bool cl].toArray 48))
 rw [hw1] at HA0 HU0
 change Code.wp _ _ _ _ (w.alloc (.cells [.string m, .string t, .int .i64 mi, .slice af nf cf, .slice ab nb cb', .bool cl].toArray 48))
 rw [hw1]
 clear hw1
 by_cases h1 : 8000 < m.size + 1 + t.size + 1 + vl
 · have h1z : 8000 < (m.size : Int) + 1 + (t.size : Int) + 1 + (vl : Int) := by omega
   refine wp_region_held_drew (S := fun w2 => At w2 w.heap.size 48 [.string m, .string t, .int .i64 mi, .slice af nf cf, .slice ab nb cb', .bool cl] ∧ GW w2 ad ∧ Up w w2) (by kernel_rfl) ⟨HA0.o.up (Up.refl _).drew, (HW.o.up HU0.o).up (Up.refl _).drew, HU0.o.drew⟩ (fun hS => ?_)
   refine tN 0 (some 8) (.fieldAddr 48 (.tmp 2) 0) 0 (.pointer (some ⟨w.heap.size, 0, none⟩)) hS ?_
   simp only [Act.put, pB, pC, pD]
   refine tK 1 (some 9) (.load 9 (.tmp 8)) 9 (.string m) hS ?_ ?_
   · intro _ _ w5 hSw
     have h0 := hSw.1.cell (i := 0) rfl
     clear hSw hS
     go_simp
   simp only [pA, pB, pC, pD]
   refine tN 2 (some 10) (.call ⟨.builtin .len, #[.tmp 9], #[9]⟩) 3 (.int .i64 (m.size : Int)) hS ?_
   simp only [pA, pB, pC, pD]
   refine tK 3 (some 11) (.binOp .add 3 (.tmp 10) (.const (.int .i64 1)) 3) 3 (.int .i64 ((m.size : Int) + 1)) hS ?_ ?_
   · intro _ _ w5 hSw
     clear hSw hS
     go_simp
     rw [IntKind.wrap_i64]
     omega
   simp only [pA, pB, pC, pD]
   refine tN 4 (some 12) (.fieldAddr 48 (.tmp 2) 1) 0 (.pointer (some ⟨w.heap.size, 1, none⟩)) hS ?_
   simp only [pA, pB, pC, pD]
   refine tK 5 (some 13) (.load 9 (.tmp 12)) 9 (.string t) hS ?_ ?_
   · intro _ _ w5 hSw
     have h0 := hSw.1.cell (i := 1) rfl
     clear hSw hS
     go_simp
   simp only [pA, pB, pC, pD]
   refine tN 6 (some 14) (.call ⟨.builtin .len, #[.tmp 13], #[9]⟩) 3 (.int .i64 (t.size : Int)) hS ?_
   simp only [pA, pB, pC, pD]
   refine tK 7 (some 15) (.binOp .add 3 (.tmp 11) (.tmp 14) 3) 3 (.int .i64 ((m.size : Int) + 1 + (t.size : Int))) hS ?_ ?_
   · intro _ _ w5 hSw
     clear hSw hS
     go_simp
     rw [IntKind.wrap_i64]
     omega
   simp only [pA, pB, pC, pD]
   refine tK 8 (some 16) (.binOp .add 3 (.tmp 15) (.const (.int .i64 1)) 3) 3 (.int .i64 ((m.size : Int) + 1 + (t.size : Int) + 1)) hS ?_ ?_
   · intro _ _ w5 hSw
     clear hSw hS
     go_simp
     rw [IntKind.wrap_i64]
     omega
   simp only [pA, pB, pC, pD]
   refine tN 9 (some 17) (.fieldAddr 48 (.tmp 2) 2) 0 (.pointer (some ⟨w.heap.size, 2, none⟩)) hS ?_
   simp only [pA, pB, pC, pD]
   refine tK 10 (some 18) (.load 3 (.tmp 17)) 3 (.int .i64 mi) hS ?_ ?_
   · intro _ _ w5 hSw
     have h0 := hSw.1.cell (i := 2) rfl
     clear hSw hS
     go_simp
   simp only [pA, pB, pC, pD]
   refine rD 11 (some 19) (.call ⟨.value (.func 57), #[.tmp 18], #[3]⟩) 9 fun _ _ K hK => ?_
   rw [if_pos (by kernel_rfl)]
   go_simp
   refine (versionText_walk mi hm0 hm1 w1.drew ((HW.o.up HU0.o).up (Up.refl _).drew).gn).mono ?_
   rintro e w2 ⟨rfl, h9⟩
   have HU2 := Ho (HU0.o.drew.trans h9)
   have HA2 := Ho ((HA0.o.up (Up.refl _).drew).up h9)
   clear h9 hS
   rw [HVx.o]
   dsimp only
   refine hK.out _ _ ⟨HA2.o, HW.o.up HU2.o, HU2.o⟩ (fun hS => ?_)
   clear hK K
   refine tK 12 (some 20) (.call ⟨.builtin .len, #[.tmp 19], #[9]⟩) 3 (.int .i64 (vl : Int)) hS ?_ ?_
   · intro _ _ w5 hSw
     clear hSw hS
     have hvs := HVz.o
     go_simp
   simp only [Act.put, pB, pC, pD]
   refine tK 13 (some 21) (.binOp .add 3 (.tmp 16) (.tmp 20) 3) 3 (.int .i64 ((m.size : Int) + 1 + (t.size : Int) + 1 + (vl : Int))) hS ?_ ?_
   · intro _ _ w5 hSw
     clear hSw hS
     go_simp
     rw [IntKind.wrap_i64]
     omega
   simp only [pA, pB, pC, pD]
   refine tN 14 (some 22) (.binOp .gtr 3 (.tmp 21) (.const (.int .i64 8000)) 3) 4 (.bool true) hS ?_
   simp only [pA, pB, pC, pD]
   refine tN 15 (some 7) (.assign (.tmp 22)) 4 (.bool true) hS ?_
   simp only [pA, pB, pC, pD]
   clear hS
   refine wpAnyH_done (by kernel_rfl) ?_ _
   have HE := Ho (show rv = ev (ad 9) by rw [← HR.o, if_pos h1]; rfl)
   have hgl : w2.cell? ⟨1, 0, none⟩ = _ := (HW.o.up HU2.o).ge.gl 9 (by decide)
   go_wp2
   go_ret
   rw [HE.o]
   exact ⟨rfl, HU2.o⟩
 have h1z : ¬ 8000 < (m.size : Int) + 1 + (t.size : Int) + 1 + (vl : Int) := by omega
 rw [if_neg h1] at HR
 refine wp_region_held_drew (S := fun w2 => At w2 w.heap.size 48 [.string m, .string t, .int .i64 mi, .slice af nf cf, .slice ab nb cb', .bool cl] ∧ GW w2 ad ∧ Up w w2) (by kernel_rfl) ⟨HA0.o.up (Up.refl _).drew, (HW.o.up HU0.o).up (Up.refl _).drew, HU0.o.drew⟩ (fun hS => ?_)
 refine tN 0 (some 8) (.fieldAddr 48 (.tmp 2) 0) 0 (.pointer (some ⟨w.heap.size, 0, none⟩)) hS ?_
 simp only [pA, pB, pC, pD]
 refine tK 1 (some 9) (.load 9 (.tmp 8)) 9 (.string m) hS ?_ ?_
 · intro _ _ w5 hSw
   have h0 := hSw.1.cell (i := 0) rfl
   clear hSw hS
   go_simp
 simp only [pA, pB, pC, pD]
 refine tN 2 (some 10) (.call ⟨.builtin .len, #[.tmp 9], #[9]⟩) 3 (.int .i64 (m.size : Int)) hS ?_
 simp only [pA, pB, pC, pD]
 refine tK 3 (some 11) (.binOp .add 3 (.tmp 10) (.const (.int .i64 1)) 3) 3 (.int .i64 ((m.size : Int) + 1)) hS ?_ ?_
 · intro _ _ w5 hSw
   clear hSw hS
   go_simp
   rw [IntKind.wrap_i64]
   omega
 simp only [pA, pB, pC, pD]
 refine tN 4 (some 12) (.fieldAddr 48 (.tmp 2) 1) 0 (.pointer (some ⟨w.heap.size, 1, none⟩)) hS ?_
 simp only [pA, pB, pC, pD]
 refine tK 5 (some 13) (.load 9 (.tmp 12)) 9 (.string t) hS ?_ ?_
 · intro _ _ w5 hSw
   have h0 := hSw.1.cell (i := 1) rfl
   clear hSw hS
   go_simp
 simp only [pA, pB, pC, pD]
 refine tN 6 (some 14) (.call ⟨.builtin .len, #[.tmp 13], #[9]⟩) 3 (.int .i64 (t.size : Int)) hS ?_
 simp only [pA, pB, pC, pD]
 refine tK 7 (some 15) (.binOp .add 3 (.tmp 11) (.tmp 14) 3) 3 (.int .i64 ((m.size : Int) + 1 + (t.size : Int))) hS ?_ ?_
 · intro _ _ w5 hSw
   clear hSw hS
   go_simp
   rw [IntKind.wrap_i64]
   omega
 simp only [pA, pB, pC, pD]
 refine tK 8 (some 16) (.binOp .add 3 (.tmp 15) (.const (.int .i64 1)) 3) 3 (.int .i64 ((m.size : Int) + 1 + (t.size : Int) + 1)) hS ?_ ?_
 · intro _ _ w5 hSw
   clear hSw hS
   go_simp
   rw [IntKind.wrap_i64]
   omega
 simp only [pA, pB, pC, pD]
 refine tN 9 (some 17) (.fieldAddr 48 (.tmp 2) 2) 0 (.pointer (some ⟨w.heap.size, 2, none⟩)) hS ?_
 simp only [pA, pB, pC, pD]
 refine tK 10 (some 18) (.load 3 (.tmp 17)) 3 (.int .i64 mi) hS ?_ ?_
 · intro _ _ w5 hSw
   have h0 := hSw.1.cell (i := 2) rfl
   clear hSw hS
   go_simp
 simp only [pA, pB, pC, pD]
 refine rD 11 (some 19) (.call ⟨.value (.func 57), #[.tmp 18], #[3]⟩) 9 fun _ _ K hK => ?_
 rw [if_pos (by kernel_rfl)]
 go_simp
 refine (versionText_walk mi hm0 hm1 w1.drew ((HW.o.up HU0.o).up (Up.refl _).drew).gn).mono ?_
 rintro e w2 ⟨rfl, h9⟩
 have HU2 := Ho (HU0.o.drew.trans h9)
 have HA2 := Ho ((HA0.o.up (Up.refl _).drew).up h9)
 clear h9 hS
 rw [HVx.o]
 dsimp only
 refine hK.out _ _ ⟨HA2.o, HW.o.up HU2.o, HU2.o⟩ (fun hS => ?_)
 clear hK K
 refine tK 12 (some 20) (.call ⟨.builtin .len, #[.tmp 19], #[9]⟩) 3 (.int .i64 (vl : Int)) hS ?_ ?_
 · intro _ _ w5 hSw
   clear hSw hS
   have hvs := HVz.o
   go_simp
 simp only [Act.put, pB, pC, pD]
 refine tK 13 (some 21) (.binOp .add 3 (.tmp 16) (.tmp 20) 3) 3 (.int .i64 ((m.size : Int) + 1 + (t.size : Int) + 1 + (vl : Int))) hS ?_ ?_
 · intro _ _ w5 hSw
   clear hSw hS
   go_simp
   rw [IntKind.wrap_i64]
   omega
 simp only [pA, pB, pC, pD]
 refine tN 14 (some 22) (.binOp .gtr 3 (.tmp 21) (.const (.int .i64 8000)) 3) 4 (.bool false) hS ?_
 simp only [pA, pB, pC, pD]
 refine tN 15 (some 7) (.assign (.tmp 22)) 4 (.bool false) hS ?_
 simp only [pA, pB, pC, pD]
 clear hS
 refine wpAnyH_done (by kernel_rfl) ?_ _
 go_wp2_with fail
 refine (HSz.o w2 (HF.o.up HU2.o)).mono ?_
 rintro e w3 ⟨rfl, h9⟩
 have HU3 := Ho (HU2.o.trans h9)
 have HA3 := Ho (HA2.o.up h9)
 clear h9
 dsimp only
 by_cases h2 : 16384 < z
 · have h2z : (16384 : Int) < (z : Int) := by omega
   have HE := Ho (show rv = ev (ad 1) by rw [← HR.o, if_pos h2]; rfl)
   have hgl : w3.cell? ⟨2, 0, none⟩ = _ := (HW.o.up HU3.o).ge.gl 1 (by decide)
   go_wp2
   go_ret
   rw [HE.o]
   exact ⟨rfl, HU3.o⟩
 have h2z : ¬ (16384 : Int) < (z : Int) := by omega
 rw [if_neg h2] at HR
 have c0 := HA3.o.cell (i := 0) rfl
 go_wp2_with fail
 refine (isToken_walk m hm w3).mono ?_
 rintro e w5 ⟨rfl, h9⟩
 have HU5 := Ho (HU3.o.trans h9)
 have HA5 := Ho (HA3.o.up h9)
 clear h9
 dsimp only
 cases htk : tok m.data.toList with
 | false =>
  have HE := Ho (show rv = ev (ad 3) by rw [← HR.o, if_pos htk]; rfl)
  have hgl : w5.cell? ⟨3, 0, none⟩ = _ := (HW.o.up HU5.o).ge.gl 3 (by decide)
  go_wp2
  go_ret
  rw [HE.o]
  exact ⟨rfl, HU5.o⟩
 | true =>
  rw [if_neg (by rw [htk]; simp)] at HR
  clear htk c0
  have c1 := HA5.o.cell (i := 1) rfl
  go_wp2_with fail
  refine (isTarget_walk t ht w5).mono ?_
  rintro e w6 ⟨rfl, h9⟩
  have HU6 := Ho (HU5.o.trans h9)
  have HA6 := Ho (HA5.o.up h9)
  clear h9
  dsimp only
  cases htg : tgt t.data.toList with
  | false =>
   have HE := Ho (show rv = ev (ad 3) by rw [← HR.o, if_pos htg]; rfl)
   have hgl : w6.cell? ⟨3, 0, none⟩ = _ := (HW.o.up HU6.o).ge.gl 3 (by decide)
   go_wp2
   go_ret
   rw [HE.o]
   exact ⟨rfl, HU6.o⟩
  | true =>
   rw [if_neg (by rw [htg]; simp)] at HR
   clear htg c1
   have c0 := HA6.o.cell (i := 0) rfl
   go_wp2_with fail
   refine (isKnownMethod_walk m w6 (HW.o.up HU6.o).mt).mono ?_
   rintro e w7 ⟨rfl, h9⟩
   have HU7 := Ho (HU6.o.trans h9)
   have HA7 := Ho (HA6.o.up h9)
   clear h9
   dsimp only
   cases hmt : mtk m with
   | false =>
    have HE := Ho (show rv = ev (ad 10) by rw [← HR.o, if_pos hmt]; rfl)
    have hgl : w7.cell? ⟨4, 0, none⟩ = _ := (HW.o.up HU7.o).ge.gl 10 (by decide)
    go_wp2
    go_ret
    rw [HE.o]
    exact ⟨rfl, HU7.o⟩
   | true =>
    rw [if_neg (by rw [hmt]; simp)] at HR
    clear hmt c0
    have c2 := HA7.o.cell (i := 2) rfl
    go_wp2_with fail
    refine (isMinor_walk mi w7).mono ?_
    rintro e w8 ⟨rfl, h9⟩
    obtain rfl := h9.symm
    clear h9
    dsimp only
    cases hmn : mnr mi with
    | false =>
     have HE := Ho (show rv = ev (ad 4) by rw [← HR.o, if_pos hmn]; rfl)
     have hgl : w7.cell? ⟨5, 0, none⟩ = _ := (HW.o.up HU7.o).ge.gl 4 (by decide)
     go_wp2
     go_ret
     rw [HE.o]
     exact ⟨rfl, HU7.o⟩
    | true =>
     rw [if_neg (by rw [hmn]; simp)] at HR
     clear hmn c2
     go_wp2_with fail
     refine (HCf.o w7 (HF.o.up HU7.o) (HW.o.up HU7.o).ge).mono ?_
     rintro e w9 ⟨rfl, h9⟩
     have HU9 := Ho (HU7.o.trans h9)
     have HA9 := Ho (HA7.o.up h9)
     clear h9
     dsimp only
     cases hcf : ckf fs with
     | some k =>
      have HE := Ho (show rv = ev (ad k) by rw [← HR.o, hcf]; rfl)
      rw [show eoV ad (some k) = ev (ad k) from rfl]
      have hne := ev_neq ad k
      go_wp2
      go_ret
      rw [HE.o]
      exact ⟨rfl, HU9.o⟩
     | none =>
      rw [hcf] at HR
      rw [show eoV ad none = Value.nilIface from rfl]
      clear hcf
      have c2 := HA9.o.cell (i := 2) rfl
      go_wp2_with fail
      refine (checkHost_walk ad a fs c mi w9 (HF.o.up HU9.o) (by omega) (fun f hf => by have := HMe.o f hf; omega) (HW.o.up HU9.o).ge (HW.o.up HU9.o).kd).mono ?_
      rintro e w10 ⟨rfl, h9⟩
      have HU10 := Ho (HU9.o.trans h9)
      have HA10 := Ho (HA9.o.up h9)
      clear h9
      dsimp only
      cases hch : ckh fs mi with
      | some k =>
       have HE := Ho (show rv = ev (ad k) by rw [← HR.o, hch]; rfl)
       rw [show eoV ad (some k) = ev (ad k) from rfl]
       have hne := ev_neq ad k
       go_wp2
       go_ret
       rw [HE.o]
       exact ⟨rfl, HU10.o⟩
      | none =>
       rw [hch] at HR
       rw [show eoV ad none = Value.nilIface from rfl]
       clear hch c2
       have c4 := HA10.o.cell (i := 4) rfl
       by_cases hbl : 1048576 < nb
       · have hblz : (1048576 : Int) < (nb : Int) := by omega
         have HE := Ho (show rv = ev (ad 7) by rw [← HR.o, if_pos hbl]; rfl)
         have hgl : w10.cell? ⟨6, 0, none⟩ = _ := (HW.o.up HU10.o).ge.gl 7 (by decide)
         go_wp2
         go_ret
         rw [HE.o]
         exact ⟨rfl, HU10.o⟩
       have hblz : ¬ (1048576 : Int) < (nb : Int) := by omega
       have HE := Ho (show rv = .nilIface by rw [← HR.o, if_neg hbl]; rfl)
       go_wp2
       go_ret
       rw [HE.o]
       exact ⟨rfl, HU10.o⟩
def frF (fs : List FD) (n : Nat) : List FD := if 0 < n then pfs fs ++ [lnf n] else pfs fs
def frS (m t : ByteArray) (mi : Int) : List UInt8 := m.data.toList ++ [32] ++ t.data.toList ++ [32] ++ vtx mi
def frQ (m t : ByteArray) (mi : Int) (fs : List FD) (bd : List UInt8) : Er (List UInt8) := match ckq m t mi (frF fs bd.length) bd.length with
 | some k => .error k
 | none => .ok (prt (frS m t mi) (frF fs bd.length) bd)
def FrR (w w' : World) (e : Ending) : Er (List UInt8) → Prop
 | .error k => e = .returned (.tuple #[.slice none 0 0, .int .i64 (nums k)])
 | .ok l => ∃ a c, e = .returned (.tuple #[.slice a l.length c, .int .i64 0]) ∧ Hd (Ow w' w.heap.size (.slice a l.length c) l)
theorem ckf_lt {fs : List FD} {k : Nat} (h : ckf fs = some k) : k < 12 := by
 unfold ckf at h
 split at h
 · cases h; decide
 split at h
 · cases h; decide
 cases h
theorem ckh_lt {fs : List FD} {mi : Int} {k : Nat} (h : ckh fs mi = some k) : k < 12 := by
 unfold ckh at h
 split at h
 · cases h; decide
 split at h
 · cases h; decide
 cases h
theorem ckq_lt {m t : ByteArray} {mi : Int} {fs : List FD} {nb k : Nat} (h : ckq m t mi fs nb = some k) : k < 12 := by
 unfold ckq at h
 repeat' split at h
 all_goals first
  | (cases h; done)
  | (injection h with h; subst h; decide)
  | (injection h with h; subst h; first | exact ckf_lt (by assumption) | exact ckh_lt (by assumption))
theorem ckq_ok {m t : ByteArray} {mi : Int} {fs : List FD} {nb : Nat} (h : ckq m t mi fs nb = none) : m.size + 1 + t.size + 1 + (vtx mi).length ≤ 8000 ∧ szs fs ≤ 16384 ∧ nb ≤ 1048576 := by
 unfold ckq at h
 repeat' split at h
 all_goals first
  | (cases h; done)
  | (refine ⟨?_, ?_, ?_⟩ <;> omega)
theorem szs_frF (fs : List FD) (n : Nat) (h : n ≤ 1099511627776) : szs (frF fs n) ≤ szs fs + 128 := by
 have h1 := szs_pfs fs
 unfold frF
 split
 · rw [szs_snoc]
   have h2 : szf (lnf n) ≤ 128 := by
    have h3 := itoa_len (n : Int) (by omega) (by omega)
    have h4 : (⟨(Go.Lib.itoa (n : Int)).toArray⟩ : ByteArray).size = (Go.Lib.itoa (n : Int)).length := by simp [ByteArray.size]
    have h5 : ctlN.size = 14 := rfl
    unfold szf lnf
    dsimp only
    omega
   omega
 omega
set_option maxRecDepth 100000 in
set_option maxHeartbeats 4000000 in
theorem FormatRequest_walk (ad : Nat → Addr) (m t : ByteArray) (mi : Int) (a : Option Addr) (fs : List FD) (c : Nat) (ab : Option Addr) (nb cb' : Nat) (bd : List UInt8) (cl : Bool) (w : World) (h : FdL w a fs c) (hb : Sb w (.slice ab nb cb') bd) (hG : GW w ad) (hm : m.size ≤ 1099511627776) (ht : t.size ≤ 1099511627776)
  (hm0 : -9223372036854775808 ≤ mi) (hm1 : mi ≤ 9223372036854775807) (hl : szs fs ≤ 1099511627000) (hnb : nb ≤ 1099511627776) :
  Calls Tryz.prog 20 #[.agg #[.string m, .string t, .int .i64 mi, .slice a fs.length c, .slice ab nb cb', .bool cl]] w fun e w' => FrR w w' e (frQ m t mi fs bd) ∧ Up w w' := by
 have HF := Ho h
 have HW := Ho hG
 have HB := Ho hb
 have hcap := h.cap
 obtain ⟨hbn, hbc, hbm⟩ := hb.len
 unfold maxLen at hbm
 have HBn := Ho hbn
 clear h hG hb hbn
 have HVl := Ho (vtx_len mi hm0 hm1)
 have HVz0 : (⟨(vtx mi).toArray⟩ : ByteArray).size = (vtx mi).length := by simp [ByteArray.size]
 have HVx := Ho (show vs (vtx mi) = .string ⟨(vtx mi).toArray⟩ from rfl)
 have HVd0 : (⟨(vtx mi).toArray⟩ : ByteArray).data.toList = vtx mi := rfl
 generalize (⟨(vtx mi).toArray⟩ : ByteArray) = vt at HVx HVz0 HVd0
 have HVd := Ho HVd0
 obtain ⟨vl, hvln⟩ := ny ((vtx mi).length)
 rw [hvln] at HVz0 HVl
 have HVz := Ho HVz0
 have HVn := Ho hvln
 clear HVz0 HVd0 hvln
 have hsl := szs_len fs
 have hpl := pfs_len fs
 have HZf := Ho (szs_frF fs nb hnb)
 have HA0 := Ho (at_new w 48 [.string m, .string t, .int .i64 mi, .slice a fs.length c, .slice ab nb cb', .bool cl])
 have HS1 := Ho (show w.heap.size < w.heap.size + 1 by omega)
 have HU0 := Ho ((Up.refl w).alloc (.cells [.string m, .string t, .int .i64 mi, .slice a fs.length c, .slice ab nb cb', .bool cl].toArray 48))
 obtain ⟨rv, hrv⟩ := ny (frQ m t mi fs bd)
 have HR := Ho hrv
 rw [hrv]
 clear hrv
 go_enter Tryz.func20, Tryz.ntmps20
 go_wp2_with (with_reducible refine sL 36 ?_)
 show wpList _ _ _ _ _ _
 obtain ⟨w1, hw1⟩ := ny (w.alloc (.cells [.string m, .string t, .int .i64 mi, .slice a fs.length c, .slice ab nb cb', .bool cl].toArray 48))
 have HS1 := Ho (show w.heap.size < w1.heap.size by rw [← hw1, alloc_size]; omega)
 rw [hw1] at HA0 HU0
 change wpList _ _ _ _ _ (w.alloc (.cells [.string m, .string t, .int .i64 mi, .slice a fs.length c, .slice ab nb cb', .bool cl].toArray 48))
 rw [hw1]
 clear hw1
 have c3 := HA0.o.cell (i := 3) rfl
 go_wp2_with fail
 refine (printedFields_walk a fs c w1 (HF.o.up HU0.o) (by omega) (HW.o.up HU0.o).kd).mono ?_
 rintro e w2 ⟨⟨a2, c2, rfl, hO2⟩, h9⟩
 have HU2 := Ho (HU0.o.trans h9)
 have HA2 := Ho (HA0.o.up h9)
 have HO2 := Ho hO2.o
 have HW1 := Ho h9
 clear h9 hO2 c3
 dsimp only
 have c4 := HA2.o.cell (i := 4) rfl
 by_cases hb0 : 0 < nb
 case' _ =>
  have hb0z : (0 : Int) < (nb : Int) := by omega
  have HFr0 : frF fs nb = pfs fs ++ [lnf nb] := by unfold frF; rw [if_pos hb0]
  obtain ⟨np, hnp⟩ := ny ((pfs fs).length)
  have HNp := Ho hnp
  rw [hnp] at hpl ⊢
  clear hnp
  go_wp2_with fail
  refine (lengthOf_walk ab nb cb' hnb w2 (HW.o.up HU2.o).gn).mono ?_
  rintro e w3 ⟨rfl, h9⟩
  have HU3 := Ho (HU2.o.trans h9)
  have HA3 := Ho (HA2.o.up h9)
  have Hu3 := Ho h9
  clear h9
  dsimp only
  go_wp2_with (with_reducible refine sA ?_)
  show wpList _ _ _ _ _ _
  refine wpList_appFd (w := w3) (N := w1.heap.size) rfl _ _ rfl a2 c2 (pfs fs) (lnf nb) HNp.o rfl rfl (ow_up HO2.o Hu3.o) (Nat.le_trans HW1.o.size Hu3.o.size) (by omega) ?_
  intro a4 c4' w4 o4 u4 g4
  have HA4 := Ho (HA3.o.by g4 (fun e => by
   have h1 := ow_up HO2.o Hu3.o
   unfold FdO at h1
   rw [HNp.o] at h1
   have h2 := (World.ownsRow.lt h1 w.heap.size e).1
   have h3 := HS1.o
   omega))
  have hu4 := u4 w1 (HW1.o.trans Hu3.o) (Nat.le_refl _)
  have HU4 := Ho (HU0.o.trans hu4)
  have hZ := HZf.o
  rw [HFr0] at hZ
  have HFr := Ho HFr0
  have HNF0 : (pfs fs ++ [lnf nb]).length = np + 1 := by rw [List.length_append, HNp.o]; rfl
  have HF4 := Ho o4.fdl
  clear o4 u4 g4 hu4 HFr0 c4
  generalize pfs fs ++ [lnf nb] = F at HF4 HFr HNF0 hZ
  rw [← HNF0]
  clear HNF0
  have hFz : szs F ≤ 1099511627776 := by omega
  clear hZ
  simp only [Act.put, pB, pC, pD]
  obtain ⟨nF, hnF⟩ := ny F.length
  have HNF := Ho hnF
  have hnFc := HF4.o.cap
  have HCk := Ho (checkRequest_walk ad m t mi a fs.length c ab nb cb' cl a4 F c4' w4 HF4.o (HW.o.up HU4.o) hm ht hm0 hm1 hFz hnb)
  have HPm := Ho (fun (st : ByteArray) (w7 : World) (h1 : FdL w7 a4 F c4') (h2 : Sb w7 (.slice ab nb cb') bd) h3 h4 h5 => printMessage_walk st a4 F c4' ab nb cb' bd w7 h1 h2 h3 h4 h5)
  rw [hnF] at HCk HPm hnFc ⊢
  clear hnF
  go_wp2_with (with_reducible refine sL 48 ?_)
  show wpList _ _ _ _ _ _
  refine wpList_load_mid rfl _ _ rfl w.heap.size 0 rfl _ _ HA4.o.range Tryz.underlying48 rfl (by kernel_rfl) ?_
  simp only [Act.put, pB, pC, pD]
  go_wp2_with fail
  refine HCk.o.mono ?_
  rintro e w6 ⟨rfl, h9⟩
  have HU6 := Ho (HU4.o.trans h9)
  have HA6 := Ho (HA4.o.up h9)
 rotate_left
 case' _ =>
  have hb0z : ¬ (0 : Int) < (nb : Int) := by omega
  have HFr := Ho (show frF fs nb = pfs fs by unfold frF; rw [if_neg hb0])
  have HF4 := Ho HO2.o.fdl
  have hZ := HZf.o
  rw [HFr.o] at hZ
  generalize pfs fs = F at HF4 HFr hZ ⊢
  have hFz : szs F ≤ 1099511627776 := by omega
  clear hZ
  obtain ⟨nF, hnF⟩ := ny F.length
  have HNF := Ho hnF
  have hnFc := HF4.o.cap
  have HCk := Ho (checkRequest_walk ad m t mi a fs.length c ab nb cb' cl a2 F c2 w2 HF4.o (HW.o.up HU2.o) hm ht hm0 hm1 hFz hnb)
  have HPm := Ho (fun (st : ByteArray) (w7 : World) (h1 : FdL w7 a2 F c2) (h2 : Sb w7 (.slice ab nb cb') bd) h3 h4 h5 => printMessage_walk st a2 F c2 ab nb cb' bd w7 h1 h2 h3 h4 h5)
  rw [hnF] at HCk HPm hnFc ⊢
  clear hnF
  go_wp2_with (with_reducible refine sL 48 ?_)
  show wpList _ _ _ _ _ _
  refine wpList_load_mid rfl _ _ rfl w.heap.size 0 rfl _ _ HA2.o.range Tryz.underlying48 rfl (by kernel_rfl) ?_
  simp only [Act.put, pB, pC, pD]
  go_wp2_with fail
  refine HCk.o.mono ?_
  rintro e w6 ⟨rfl, h9⟩
  have HU6 := Ho (HU2.o.trans h9)
  have HA6 := Ho (HA2.o.up h9)
 all_goals
  have HF6 := Ho (HF4.o.up h9)
  clear h9
  dsimp only
  cases hck : ckq m t mi F nb with
  | some k =>
   have HE := Ho (show rv = .error k by rw [← HR.o]; unfold frQ; rw [← HBn.o, HFr.o, hck])
   have hk := ckq_lt hck
   rw [show eoV ad (some k) = ev (ad k) from rfl]
   have hne := ev_neq ad k
   clear hck
   go_wp2_with fail
   refine (numberOf_err ad k hk w6 (HW.o.up HU6.o).ge).mono ?_
   rintro e w7 ⟨rfl, h9⟩
   have HU7 := Ho (HU6.o.trans h9)
   clear h9
   dsimp only
   go_wp2
   go_ret2
   rw [HE.o]
   exact ⟨rfl, HU7.o⟩
  | none =>
   have HE := Ho (show rv = .ok (prt (frS m t mi) F bd) by rw [← HR.o]; unfold frQ; rw [← HBn.o, HFr.o, hck])
   obtain ⟨hq1, hq2, hq3⟩ := ckq_ok hck
   rw [show eoV ad none = Value.nilIface from rfl]
   have hvl := HVl.o
   have HSt := Ho (show (m ++ (⟨#[32]⟩ : ByteArray) ++ t ++ (⟨#[32]⟩ : ByteArray) ++ vt).data.toList = frS m t mi by rw [bat_app, bat_app, bat_app, bat_app]; unfold frS; rw [HVd.o])
   have hsz : (m ++ (⟨#[32]⟩ : ByteArray) ++ t ++ (⟨#[32]⟩ : ByteArray) ++ vt).size ≤ 1048576 := by
    rw [Go.Lib.size_eq, HSt.o]
    unfold frS
    simp only [List.length_append, List.length_cons, List.length_nil]
    rw [← Go.Lib.size_eq, ← Go.Lib.size_eq]
    omega
   have HPm := Ho (fun w7 h1 h2 => HPm.o (m ++ (⟨#[32]⟩ : ByteArray) ++ t ++ (⟨#[32]⟩ : ByteArray) ++ vt) w7 h1 h2 hsz (by omega) (by rw [← HBn.o]; exact hq3))
   rw [HSt.o] at HPm
   clear hsz HSt
   obtain ⟨L, hL⟩ := ny ((prt (frS m t mi) F bd).length)
   have HL := Ho hL
   rw [hL] at HPm
   clear hL hck
   have hvl2 : (vtx mi).length = vl := HVn.o
   rw [hvl2] at hq1
   have hl1 : ¬ 9223372036854775807 < m.size + 1 := by omega
   have hl2 : ¬ 9223372036854775807 < m.size + 1 + t.size := by omega
   have hl3 : ¬ 9223372036854775807 < m.size + 1 + t.size + 1 := by omega
   have hl4 : ¬ 9223372036854775807 < m.size + 1 + t.size + 1 + vl := by omega
   go_wp2
   refine wp_region_held_drew (S := fun w2 => At w2 w.heap.size 48 [.string m, .string t, .int .i64 mi, .slice a fs.length c, .slice ab nb cb', .bool cl] ∧ GW w2 ad ∧ Up w w2) (by kernel_rfl) ⟨HA6.o.up (Up.refl _).drew, (HW.o.up HU6.o).up (Up.refl _).drew, HU6.o.drew⟩ (fun hS => ?_)
   refine tN 0 (some 26) (.fieldAddr 48 (.tmp 1) 0) 0 (.pointer (some ⟨w.heap.size, 0, none⟩)) hS ?_
   simp only [Act.put, pB, pC, pD]
   refine tK 1 (some 27) (.load 9 (.tmp 26)) 9 (.string m) hS ?_ ?_
   · intro _ _ w5 hSw
     have h0 := hSw.1.cell (i := 0) rfl
     clear hSw hS
     go_simp
   simp only [Act.put, pB, pC, pD]
   refine tN 2 (some 28) (.binOp .add 9 (.tmp 27) (.const (.string { data := #[32] })) 9) 9 (.string (m ++ (⟨#[32]⟩ : ByteArray))) hS ?_
   simp only [Act.put, pB, pC, pD]
   refine tN 3 (some 29) (.fieldAddr 48 (.tmp 1) 1) 0 (.pointer (some ⟨w.heap.size, 1, none⟩)) hS ?_
   simp only [Act.put, pB, pC, pD]
   refine tK 4 (some 30) (.load 9 (.tmp 29)) 9 (.string t) hS ?_ ?_
   · intro _ _ w5 hSw
     have h0 := hSw.1.cell (i := 1) rfl
     clear hSw hS
     go_simp
   simp only [Act.put, pB, pC, pD]
   refine tN 5 (some 31) (.binOp .add 9 (.tmp 28) (.tmp 30) 9) 9 (.string (m ++ (⟨#[32]⟩ : ByteArray) ++ t)) hS ?_
   simp only [Act.put, pB, pC, pD]
   refine tN 6 (some 32) (.binOp .add 9 (.tmp 31) (.const (.string { data := #[32] })) 9) 9 (.string (m ++ (⟨#[32]⟩ : ByteArray) ++ t ++ (⟨#[32]⟩ : ByteArray))) hS ?_
   simp only [Act.put, pB, pC, pD]
   refine tN 7 (some 33) (.fieldAddr 48 (.tmp 1) 2) 0 (.pointer (some ⟨w.heap.size, 2, none⟩)) hS ?_
   simp only [Act.put, pB, pC, pD]
   refine tK 8 (some 34) (.load 3 (.tmp 33)) 3 (.int .i64 mi) hS ?_ ?_
   · intro _ _ w5 hSw
     have h0 := hSw.1.cell (i := 2) rfl
     clear hSw hS
     go_simp
   simp only [Act.put, pB, pC, pD]
   first
   | refine tN 11 (some 37) (.move (.tmp 4)) 36 (.slice a4 nF c4') hS ?_
   | refine tN 11 (some 37) (.move (.tmp 4)) 36 (.slice a2 nF c2) hS ?_
   simp only [Act.put, pB, pC, pD]
   refine tN 12 (some 38) (.fieldAddr 48 (.tmp 1) 4) 0 (.pointer (some ⟨w.heap.size, 4, none⟩)) hS ?_
   simp only [Act.put, pB, pC, pD]
   refine tK 13 (some 39) (.load 22 (.tmp 38)) 22 (.slice ab nb cb') hS ?_ ?_
   · intro _ _ w5 hSw
     have h0 := hSw.1.cell (i := 4) rfl
     clear hSw hS
     go_simp
   simp only [Act.put, pB, pC, pD]
   refine rD 9 (some 35) (.call ⟨.value (.func 57), #[.tmp 34], #[3]⟩) 9 fun _ _ K hK => ?_
   rw [if_pos (by kernel_rfl)]
   go_simp
   refine (versionText_walk mi hm0 hm1 w6.drew ((HW.o.up HU6.o).up (Up.refl _).drew).gn).mono ?_
   rintro e w7 ⟨rfl, h9⟩
   have HU7 := Ho (HU6.o.drew.trans h9)
   have HA7 := Ho ((HA6.o.up (Up.refl _).drew).up h9)
   have HF7 := Ho ((HF6.o.up (Up.refl _).drew).up h9)
   clear h9 hS
   rw [HVx.o]
   dsimp only
   refine hK.out _ _ ⟨HA7.o, HW.o.up HU7.o, HU7.o⟩ (fun hS => ?_)
   clear hK K
   refine tK 10 (some 36) (.binOp .add 9 (.tmp 32) (.tmp 35) 9) 9 (.string (m ++ (⟨#[32]⟩ : ByteArray) ++ t ++ (⟨#[32]⟩ : ByteArray) ++ vt)) hS ?_ ?_
   · intro _ _ w5 hSw
     clear hSw hS
     have hvz := HVz.o
     go_simp
   simp only [Act.put, pB, pC, pD]
   refine rD 14 (some 40) (.call ⟨.value (.func 56), #[.tmp 36, .tmp 37, .tmp 39], #[9, 36, 22]⟩) 22 fun _ _ K hK => ?_
   rw [if_pos (by kernel_rfl)]
   go_simp
   refine (HPm.o w7 HF7.o (HB.o.up HU7.o)).mono ?_
   rintro e w8 ⟨⟨a8, c8, rfl, hO8⟩, h9⟩
   have HU8 := Ho (HU7.o.trans h9)
   have HA8 := Ho (HA7.o.up h9)
   have HO8 := Ho (show Ow w8 w.heap.size _ _ from ow_base hO8.o HU7.o.size)
   clear h9 hS hO8
   dsimp only
   refine hK.out _ _ ⟨HA8.o, HW.o.up HU8.o, HU8.o⟩ (fun hS => ?_)
   clear hK K
   refine tN 15 (some 2) (.assign (.tmp 40)) 22 (.slice a8 L c8) hS ?_
   simp only [Act.put, pB, pC, pD]
   refine tN 16 (some 3) (.assign (.const (.int .i64 0))) 58 (.int .i64 0) hS ?_
   simp only [Act.put, pB, pC, pD]
   clear hS
   refine wpAnyH_done (by kernel_rfl) ?_ _
   go_wp2
   go_ret2
   rw [HE.o]
   exact ⟨⟨a8, c8, by rw [HL.o]; rfl, Ho (by rw [HL.o]; exact HO8.o)⟩, HU8.o⟩
def blk (c : UInt8) : Bool := bks.data.toList.contains c
def tidy (v : List UInt8) : Prop := (∀ x, v.head? = some x → blk x = false) ∧ (∀ x, v.getLast? = some x → blk x = false)
theorem trm_def (v : List UInt8) : trm v = ((v.reverse.dropWhile blk).reverse).dropWhile blk := rfl
theorem dw_tidy {v : List UInt8} (h : ∀ x, v.head? = some x → blk x = false) : v.dropWhile blk = v := by
 cases v with
 | nil => rfl
 | cons x r =>
  rw [List.dropWhile_cons, h x rfl]
  rfl
theorem trm_id {v : List UInt8} (h : tidy v) : trm v = v := by
 rw [trm_def, dw_tidy (v := v.reverse) (by intro x hx; rw [List.head?_reverse] at hx; exact h.2 x hx), List.reverse_reverse, dw_tidy h.1]
theorem mnr_or {mi : Int} (h : mnr mi = true) : mi = 0 ∨ mi = 1 := by
 unfold mnr at h
 rw [Bool.or_eq_true] at h
 rcases h with h | h
 · exact .inl (by simpa using h)
 exact .inr (by simpa using h)
theorem vtx_facts {mi : Int} (h : mnr mi = true) : vok (vtx mi) = true ∧ mno ⟨(vtx mi).toArray⟩ = .ok mi ∧ (10 : UInt8) ∉ vtx mi := by
 rcases mnr_or h with rfl | rfl
 · rw [show vtx 0 = [72, 84, 84, 80, 47, 49, 46, 48] by decide +kernel]
   exact ⟨by decide +kernel, by unfold mno; rw [if_pos (by decide +kernel)], by decide +kernel⟩
 rw [show vtx 1 = [72, 84, 84, 80, 47, 49, 46, 49] by decide +kernel]
 exact ⟨by decide +kernel, by unfold mno; rw [if_neg (by decide +kernel), if_pos (by decide +kernel)], by decide +kernel⟩
def pdd (b : List UInt8) (pad : Int) : List UInt8 := b ++ List.replicate (min pad.toNat 1100000) 120
set_option maxRecDepth 100000 in
set_option maxHeartbeats 1000000 in
theorem padded_walk (v : Value) (b : List UInt8) (pad : Int) (hb : b.length ≤ 1099511627) (w : World) (hS : Sb w v b) : Calls Tryz.prog 23 #[v, .int .i64 pad] w fun e w' => ∃ v', e = .returned v' ∧ Ow w' w.heap.size v' (pdd b pad) ∧ Up w w' := by
 have HS := Ho hS
 have HPd := Ho (show pdd b pad = b ++ List.replicate (min pad.toNat 1100000) 120 from rfl)
 clear hS
 obtain ⟨nb, hnb⟩ := ny b.length
 have HNb := Ho hnb
 rw [hnb] at hb
 clear hnb
 obtain ⟨aV, nV, cV, rfl⟩ := Sb.shape HS.o
 go_enter Tryz.func23, Tryz.ntmps23
 go_wp2_with (with_reducible refine sA ?_)
 show wpList _ _ _ _ _ _
 refine wpList_appSb (N := w.heap.size) rfl _ _ rfl none 0 [] _ b rfl rfl HS.o (World.ownsRow_nil _ _ _ _) (Nat.le_refl _) (by rw [HNb.o]; omega) ?_
 intro a1 c1' w1 o1 hu1
 have HU1 := Ho (hu1 w (Up.refl w) (Nat.le_refl _))
 rw [HNb.o, Nat.zero_add, List.nil_append] at o1
 rw [HNb.o, Nat.zero_add]
 have HO1 := Ho o1
 clear o1 hu1
 simp only [Act.put, pB, pC, pD]
 go_wp2
 go_loopw [5, 6] (fun v5 v6 wr => ∃ (i : Nat) (a5 : Option Addr) (c5 : Nat), v6 = .int .i64 (i : Int) ∧ v5 = .slice a5 (nb + i) c5 ∧ i ≤ 1100000 ∧ Hd (Up w wr ∧ wr.ownsRow w.heap.size 5 1 (.slice a5 (nb + i) c5) (nb + i) (cb (b ++ List.replicate i 120)) ∧ i ≤ min pad.toNat 1100000)) (fun _ v6 _ => 1100000 - (intOf v6).toNat)
 case atStart => exact ⟨0, a1, c1', rfl, rfl, by omega, Ho ⟨HU1.o, by simpa using HO1.o, Nat.zero_le _⟩⟩
 case round =>
  obtain ⟨i, a5, c5, rfl, rfl, hi, hQ⟩ := hrel
  have HQ := Ho hQ.o
  clear hQ
  by_cases hp : (i : Int) < pad
  · by_cases hm : i < 1100000
    · have hmz : (i : Int) < 1100000 := by omega
      have HX := Ho (show Sb (wr.alloc (.cells #[.int .u8 120] 5)) (.slice (some ⟨wr.heap.size, 0, none⟩) 1 1) [120] from by
       refine ⟨_, 1, rfl, by simp, by simp [maxLen], (fun e => by cases e), fun ad e => ?_⟩
       obtain rfl := Option.some.inj e
       exact ⟨fun _ => rfl, fun j u hj => by rw [Addr.add_lit]; exact At.cell (at_new wr 5 [.int .u8 120]) (i := 0 + j) (by rw [Nat.zero_add]; exact hj)⟩)
      go_wp2_with (with_reducible refine sA ?_)
      show wpList _ _ _ _ _ _
      refine wpList_appSb (N := w.heap.size) rfl _ _ rfl a5 c5 (b ++ List.replicate i 120) _ [120] rfl rfl HX.o (ow_up HQ.o.2.1 ((Up.refl wr).alloc _)) (Nat.le_trans HQ.o.1.size (by rw [alloc_size]; omega)) (by simp; omega) ?_
      intro a2 c2' w2 o2 hu2
      have HU2 := Ho (hu2 w (HQ.o.1.alloc _) (Nat.le_refl _))
      have HO2 := Ho (show w2.ownsRow w.heap.size 5 1 (.slice a2 (nb + (i + 1)) c2') (nb + (i + 1)) (cb (b ++ List.replicate (i + 1) 120)) by
       rw [List.replicate_succ', ← List.append_assoc, ← Nat.add_assoc]
       exact o2)
      clear o2 hu2
      simp only [Act.put, pB, pC, pD]
      simp only [List.length_cons, List.length_nil, Nat.zero_add]
      rw [show nb + i + 1 = nb + (i + 1) from Nat.add_assoc _ _ _]
      go_wp2
      go_roundw
      all_goals first
       | exact ⟨i + 1, a2, c2', by go_num, rfl, by omega, Ho ⟨HU2.o, HO2.o, by have := HQ.o.2.2; omega⟩⟩
       | (simp [intOf]; omega)
    have hmz : ¬ (i : Int) < 1100000 := by omega
    have HE := Ho (show pdd b pad = b ++ List.replicate i 120 by rw [HPd.o, show min pad.toNat 1100000 = i by omega])
    have HL := Ho (show (b ++ List.replicate i 120).length = nb + i by simp [HNb.o])
    go_wp2
    go_ret
    refine ⟨_, rfl, ?_, HQ.o.1⟩
    rw [HE.o]
    unfold Ow
    rw [HL.o]
    exact HQ.o.2.1
  have HE := Ho (show pdd b pad = b ++ List.replicate i 120 by rw [HPd.o, show min pad.toNat 1100000 = i by have := HQ.o.2.2; omega])
  have HL := Ho (show (b ++ List.replicate i 120).length = nb + i by simp [HNb.o])
  go_wp2
  go_ret
  refine ⟨_, rfl, ?_, HQ.o.1⟩
  rw [HE.o]
  unfold Ow
  rw [HL.o]
  exact HQ.o.2.1
def kn : List UInt8 := [80, 85, 84, 32, 47, 97, 32, 72, 84, 84, 80, 47, 49, 46, 49, 13, 10, 72, 111, 115, 116, 58, 32, 98, 13, 10, 67, 111, 110, 116, 101, 110, 116, 45, 76, 101, 110, 103, 116, 104, 58, 32, 50, 13, 10, 13, 10, 104, 105, 33]
def knX : Rq := ⟨[80, 85, 84], [47, 97], 1, [⟨⟨#[72, 111, 115, 116]⟩, ⟨#[98]⟩⟩, ⟨⟨#[67, 111, 110, 116, 101, 110, 116, 45, 76, 101, 110, 103, 116, 104]⟩, ⟨#[50]⟩⟩]⟩
theorem kn_hd : cHd 9 kn = .ok (kn.take 15, (kn.drop 17).take 28, 47) := by kernel_rfl
theorem kn_rql : rql (kn.take 15) = .ok ([80, 85, 84], [47, 97], 1) := by kernel_rfl
theorem kn_rdf : rdf ((kn.drop 17).take 28) = .ok knX.fs := by kernel_rfl
theorem kn_ckh : ckh knX.fs 1 = none := by kernel_rfl
theorem kn_frm : frm knX.fs 1 0 = .ok (2, 2) := by kernel_rfl
theorem kn_fcu : fcu 2 2 (kn.drop 47) = .ok ([104, 105], 2) := by kernel_rfl
theorem kn_cls : cls (knX.mi == 0) knX.fs = false := by kernel_rfl
theorem rq_kn : rqP kn = .ok ((knX, [104, 105]), 49) := by
 unfold rqP msg
 rw [kn_hd]
 dsimp only
 unfold rqg
 rw [kn_rql]
 dsimp only
 rw [kn_rdf]
 dsimp only
 rw [kn_ckh]
 dsimp only
 rw [kn_frm]
 dsimp only
 rw [kn_fcu]
 rfl
theorem kn_cells : (cb kn).toArray = #[.int .u8 80, .int .u8 85, .int .u8 84, .int .u8 32, .int .u8 47, .int .u8 97, .int .u8 32, .int .u8 72, .int .u8 84, .int .u8 84, .int .u8 80, .int .u8 47, .int .u8 49, .int .u8 46, .int .u8 49, .int .u8 13, .int .u8 10, .int .u8 72, .int .u8 111, .int .u8 115, .int .u8 116, .int .u8 58, .int .u8 32, .int .u8 98, .int .u8 13, .int .u8 10, .int .u8 67, .int .u8 111, .int .u8 110, .int .u8 116, .int .u8 101, .int .u8 110, .int .u8 116, .int .u8 45, .int .u8 76, .int .u8 101, .int .u8 110, .int .u8 103, .int .u8 116, .int .u8 104, .int .u8 58, .int .u8 32, .int .u8 50, .int .u8 13, .int .u8 10, .int .u8 13, .int .u8 10, .int .u8 104, .int .u8 105, .int .u8 33] := by kernel_rfl
theorem sb_mkl (w : World) (l : List UInt8) (m : Nat × Nat) (hl : l.length ≤ 1048576) : Sb (w.alloc (.cells (cb l).toArray 5 m)) (.slice (some ⟨w.heap.size, 0, none⟩) l.length l.length) l := by
 refine ⟨_, l.length, rfl, Nat.le_refl _, by unfold maxLen; omega, (fun e => by cases e), fun ad e => ?_⟩
 obtain rfl := Option.some.inj e
 refine ⟨fun _ => rfl, fun j u hj => ?_⟩
 rw [Addr.add_lit]
 unfold World.cell?
 dsimp only
 rw [heap_alloc_new w _, Nat.zero_add]
 simpa using hj
theorem knV (a : Option Addr) (c : Nat) (v : Value) : rqV knX a c v = .agg #[.string ⟨#[80, 85, 84]⟩, .string ⟨#[47, 97]⟩, .int .i64 1, .slice a 2 c, v, .bool false] := by
 unfold rqV
 rw [kn_cls]
 rfl
set_option maxRecDepth 100000 in
set_option maxHeartbeats 2000000 in
theorem known_walk (ad : Nat → Addr) (w : World) (hW : GW w ad) : Calls Tryz.prog 7 #[] w fun e w' => e = .returned (.bool true) ∧ Up w w' := by
 have hcv := Go.Lib.run_convert_bytes_const (P := Tryz.prog) w 22 5 #[.int .u8 80, .int .u8 85, .int .u8 84, .int .u8 32, .int .u8 47, .int .u8 97, .int .u8 32, .int .u8 72, .int .u8 84, .int .u8 84, .int .u8 80, .int .u8 47, .int .u8 49, .int .u8 46, .int .u8 49, .int .u8 13, .int .u8 10, .int .u8 72, .int .u8 111, .int .u8 115, .int .u8 116, .int .u8 58, .int .u8 32, .int .u8 98, .int .u8 13, .int .u8 10, .int .u8 67, .int .u8 111, .int .u8 110, .int .u8 116, .int .u8 101, .int .u8 110, .int .u8 116, .int .u8 45, .int .u8 76, .int .u8 101, .int .u8 110, .int .u8 103, .int .u8 116, .int .u8 104, .int .u8 58, .int .u8 32, .int .u8 50, .int .u8 13, .int .u8 10, .int .u8 13, .int .u8 10, .int .u8 104, .int .u8 105, .int .u8 33] 50 50 Tryz.underlying22 Tryz.underlying5
 have HSk := Ho (sb_mkl w kn (50, 51) (by decide))
 rw [kn_cells] at HSk
 have HU1 := Ho ((Up.refl w).alloc (.cells #[.int .u8 80, .int .u8 85, .int .u8 84, .int .u8 32, .int .u8 47, .int .u8 97, .int .u8 32, .int .u8 72, .int .u8 84, .int .u8 84, .int .u8 80, .int .u8 47, .int .u8 49, .int .u8 46, .int .u8 49, .int .u8 13, .int .u8 10, .int .u8 72, .int .u8 111, .int .u8 115, .int .u8 116, .int .u8 58, .int .u8 32, .int .u8 98, .int .u8 13, .int .u8 10, .int .u8 67, .int .u8 111, .int .u8 110, .int .u8 116, .int .u8 101, .int .u8 110, .int .u8 116, .int .u8 45, .int .u8 76, .int .u8 101, .int .u8 110, .int .u8 103, .int .u8 116, .int .u8 104, .int .u8 58, .int .u8 32, .int .u8 50, .int .u8 13, .int .u8 10, .int .u8 13, .int .u8 10, .int .u8 104, .int .u8 105, .int .u8 33] 5 (50, 51)))
 have HPq := Ho (ParseRequest_walk ad (n := 50) (c := 50) (by decide) _ HSk.o (hW.up HU1.o))
 rw [rq_kn] at HPq
 clear hW HSk
 go_enter Tryz.func7, Tryz.ntmps7
 go_wp2_with fail
 refine HPq.o.mono ?_
 rintro e w2 ⟨⟨a, c, v, rfl, hO⟩, h9⟩
 have HU2 := Ho (HU1.o.trans h9)
 have HSb := Ho (Ow.sb hO.o.2)
 clear h9 hO hcv HPq HU1
 obtain ⟨aB, nB, cB, rfl⟩ := Sb.shape HSb.o
 rw [knV]
 dsimp only
 have HU3 := Ho ((Up.refl w2).alloc (.cells #[.string ⟨#[80, 85, 84]⟩, .string ⟨#[47, 97]⟩, .int .i64 1, .slice a 2 c, .slice aB nB cB, .bool false] 48))
 have cv := conv_sb2 (HSb.o.up HU3.o)
 go_wp2
 go_ret
 exact ⟨rfl, HU2.o.alloc _⟩
end Go.Proofs.YtehnnlhoajdcaaaGreatDoor
namespace Go.Proofs.YtehnnlhoajdcaaaGreatDoor
open Go.RowKit TextNum
structure StL (w : World) (a : Option Addr) (ss : List ByteArray) (c : Nat) : Prop where
 cap : ss.length ≤ c
 cells : ∀ i (h : i < ss.length), ∃ b off, a = some ⟨b, off, none⟩ ∧ w.cell? ⟨b, off + i, none⟩ = some (.string ss[i])
theorem StL.up {w w' : World} {a : Option Addr} {ss : List ByteArray} {c : Nat} (h : StL w a ss c) (u : Up w w') : StL w' a ss c :=
 ⟨h.cap, fun i hi => by obtain ⟨b, off, e, k⟩ := h.cells i hi; exact ⟨b, off, e, u.cell k⟩⟩
def vat (ss : List ByteArray) (i : Nat) : ByteArray := ss.getD i ⟨#[]⟩
set_option maxRecDepth 100000 in
theorem value_walk (a : Option Addr) (ss : List ByteArray) (c i : Nat) (w : World) (h : StL w a ss c) : Calls Tryz.prog 42 #[.slice a ss.length c, .int .i64 (i : Int)] w fun e w' => e = .returned (.string (vat ss i)) ∧ w' = w := by
 have hcap := h.cap
 by_cases hi : i < ss.length
 · obtain ⟨b, off, rfl, k⟩ := h.cells i hi
   have hz : (i : Int) < (ss.length : Int) := by omega
   have HV := Ho (show vat ss i = ss[i] by unfold vat; rw [List.getD_eq_getElem?_getD, List.getElem?_eq_getElem hi]; rfl)
   rw [HV.o]
   generalize ss[i] = x at *
   clear h
   go_enter Tryz.func42, Tryz.ntmps42
   go_wp2
   go_ret
   exact ⟨rfl, rfl⟩
 have hz : ¬ (i : Int) < (ss.length : Int) := by omega
 have HV := Ho (show vat ss i = ⟨#[]⟩ by unfold vat; rw [List.getD_eq_getElem?_getD, List.getElem?_eq_none (by omega)]; rfl)
 rw [HV.o]
 clear h
 go_enter Tryz.func42, Tryz.ntmps42
 go_wp2
 go_ret
 exact ⟨rfl, rfl⟩
theorem wpList_app1 {w : World} {N q : Nat} {ops : Array Oper} {rest : List Oper} {o : Oper} {a : Act} {Q : Exit → Act → World → Prop} (hgd : o.guard = none) (x y : Operand)
  (ho : o.op = .call { callee := .builtin .append, args := #[x, y], argTypes := #[22, 22] }) (ax : Option Addr) (cx : Nat) (xs : List UInt8) (b : UInt8) (hx : a.eval x = .slice ax q cx) (hy : a.eval y = .slice (some ⟨w.heap.size, 0, none⟩) 1 1)
  (hR : w.ownsRow N 5 1 (.slice ax q cx) q (cb xs)) (hNw : N ≤ w.heap.size) (hql : q ≤ 1099511627776)
  (K : ∀ ax2 cx2 w', w'.ownsRow N 5 1 (.slice ax2 (q + 1) cx2) (q + 1) (cb (xs ++ [b])) → (∀ W, Up W w → W.heap.size ≤ N → Up W w') → w.grownBy w' (Value.slice ax q cx).ownBlock → wpList Tryz.prog ops Q rest (a.put o.dst (.slice ax2 (q + 1) cx2)) w') :
  wpList Tryz.prog ops Q (o :: rest) a (w.alloc (.cells #[.int .u8 (b.toNat : Int)] 5)) := by
 obtain ⟨i0, hi0, hz0, hz1, hz2⟩ := info_parts Tryz.infoU8
 have HUx := (Up.refl w).alloc (.cells #[.int .u8 (b.toNat : Int)] 5)
 refine wpList_append_frs hgd x y 22 ho N 5 i0 (.int .u8 0) 1 Tryz.underlying22 hi0 hz0 hz1 hz2 rfl _ q _ hx (ow_up hR HUx) ⟨w.heap.size, 0, none⟩ 1 1 [.int .u8 (b.toNat : Int)] hy rfl ?_ ?_ (by simp only [maxLen]; omega) (by omega) (Nat.le_trans hNw HUx.size) ?_
 · intro j u hu
   rw [Addr.add_lit]
   exact At.cell (at_new w 5 [.int .u8 (b.toNat : Int)]) (i := 0 + j) (by rw [Nat.zero_add]; exact hu)
 · intro u hu
   obtain rfl := List.mem_singleton.1 hu
   rfl
 intro v8 w8 o8 g8 _
 obtain ⟨a4, c4, rfl⟩ := row_len o8
 refine K a4 c4 w8 (by rw [cb_snoc]; exact o8) (fun W hU hW => up_grownBy (hU.trans HUx) g8 (fun g hg => Nat.le_trans hW (World.ownsRow.lt hR g hg).1)) (up_grown HUx g8)
set_option maxRecDepth 100000 in
set_option maxHeartbeats 1000000 in
theorem lowerL_walk (s : ByteArray) (w : World) (hs : s.size ≤ 1099511627776) : Calls Tryz.prog 90 #[.string s] w fun e w' => e = .returned (.string ⟨(lws s.data.toList).toArray⟩) ∧ Up w w' := by
 have HS := Ho (show s.size = s.data.toList.length from Go.Lib.size_eq s)
 go_enter Tryz.func90, Tryz.ntmps90
 go_wp2
 go_loopw [3, 4] (fun v3 v4 wr => ∃ i : Nat, v4 = .int .i64 (i : Int) ∧ i ≤ s.size ∧ ∃ a3 c3, v3 = .slice a3 i c3 ∧ Hd (wr.ownsRow w.heap.size 5 1 (.slice a3 i c3) i (cb (lws (s.data.toList.take i))) ∧ Up w wr)) (fun _ v4 _ => s.size - (intOf v4).toNat)
 case atStart => exact ⟨0, rfl, Nat.zero_le _, none, 0, rfl, Ho ⟨World.ownsRow_nil _ _ _ _, Up.refl _⟩⟩
 case round =>
  obtain ⟨i, rfl, hi, a3, c3, rfl, hQ⟩ := hrel
  have HQ := Ho hQ.o
  clear hQ
  by_cases hil : i < s.size
  · have hilz : (i : Int) < (s.size : Int) := by omega
    have hg := sget' s i hil
    have HT := Ho (lws_take (l := s.data.toList) (i := i) (by rw [← HS.o]; exact hil))
    generalize s.data.toList[i]'(by rw [← HS.o]; exact hil) = x at *
    have hx := x.toNat_lt
    by_cases h1 : 65 ≤ x.toNat
    · have z1 : (65 : Int) ≤ (x.toNat : Int) := by omega
      by_cases h2 : x.toNat ≤ 90
      case' _ =>
       have z2 : (x.toNat : Int) ≤ 90 := by omega
       have HL := Ho (lw_yes h1 h2)
       go_wp2_with (with_reducible refine sA ?_)
       show wpList _ _ _ _ _ _
       rw [show (x.toNat : Int) + 32 = ((lw x).toNat : Int) by rw [HL.o]; omega]
       refine wpList_app1 (N := w.heap.size) rfl _ _ rfl a3 c3 (lws (s.data.toList.take i)) (lw x) rfl rfl HQ.o.1 HQ.o.2.size (by omega) ?_
       intro a4 c4 w4 o4 u4 _
       have HO4 := Ho (And.intro (show w4.ownsRow w.heap.size 5 1 (.slice a4 (i + 1) c4) (i + 1) (cb (lws (s.data.toList.take (i + 1)))) by rw [HT.o]; exact o4) (u4 w HQ.o.2 (Nat.le_refl _)))
      rotate_left
      case' _ =>
       have z2 : ¬ (x.toNat : Int) ≤ 90 := by omega
       have HL := Ho (show lw x = x from lw_no (by omega))
       go_wp2_with (with_reducible refine sA ?_)
       show wpList _ _ _ _ _ _
       refine wpList_app1 (N := w.heap.size) rfl _ _ rfl a3 c3 (lws (s.data.toList.take i)) x rfl rfl HQ.o.1 HQ.o.2.size (by omega) ?_
       intro a4 c4 w4 o4 u4 _
       have HO4 := Ho (And.intro (show w4.ownsRow w.heap.size 5 1 (.slice a4 (i + 1) c4) (i + 1) (cb (lws (s.data.toList.take (i + 1)))) by rw [HT.o]; rw [HL.o]; exact o4) (u4 w HQ.o.2 (Nat.le_refl _)))
      all_goals
       clear o4 u4
       simp only [Act.put, pB, pC, pD]
       go_wp2
       go_roundw
       all_goals first
        | exact ⟨i + 1, by go_num, by omega, a4, c4, rfl, HO4⟩
        | (simp [intOf]; omega)
    have z1 : ¬ (65 : Int) ≤ (x.toNat : Int) := by omega
    have HL := Ho (show lw x = x from lw_no (by omega))
    go_wp2_with (with_reducible refine sA ?_)
    show wpList _ _ _ _ _ _
    refine wpList_app1 (N := w.heap.size) rfl _ _ rfl a3 c3 (lws (s.data.toList.take i)) x rfl rfl HQ.o.1 HQ.o.2.size (by omega) ?_
    intro a4 c4 w4 o4 u4 _
    have HO4 := Ho (And.intro (show w4.ownsRow w.heap.size 5 1 (.slice a4 (i + 1) c4) (i + 1) (cb (lws (s.data.toList.take (i + 1)))) by rw [HT.o]; rw [HL.o]; exact o4) (u4 w HQ.o.2 (Nat.le_refl _)))
    clear o4 u4
    simp only [Act.put, pB, pC, pD]
    go_wp2
    go_roundw
    all_goals first
     | exact ⟨i + 1, by go_num, by omega, a4, c4, rfl, HO4⟩
     | (simp [intOf]; omega)
  have hilz : ¬ (i : Int) < (s.size : Int) := by omega
  have HT := Ho (show s.data.toList.take i = s.data.toList from List.take_of_length_le (by rw [← HS.o]; omega))
  have hil2 : (lws (s.data.toList.take i)).length = i := by rw [lws_len, HT.o, ← HS.o]; omega
  have hSb : Sb wr (.slice a3 i c3) (lws (s.data.toList.take i)) := Ow.sb (B := w.heap.size) (by unfold Ow; rw [hil2]; exact HQ.o.1)
  have hcv := conv_sb2 hSb
  rw [HT.o] at hcv
  clear hSb hil2
  go_wp2
  go_ret
  exact ⟨rfl, HQ.o.2⟩
def mkF (ns vs : List ByteArray) : List FD := ns.zipIdx.map fun p => ⟨p.1, vat vs p.2⟩
theorem mkF_len (ns vs : List ByteArray) : (mkF ns vs).length = ns.length := by simp [mkF]
theorem mkF_get {ns vs : List ByteArray} {i : Nat} (h : i < ns.length) (h' : i < (mkF ns vs).length) : (mkF ns vs)[i] = ⟨ns[i], vat vs i⟩ := by
 simp [mkF]
end Go.Proofs.YtehnnlhoajdcaaaGreatDoor
namespace Go.Proofs.YtehnnlhoajdcaaaGreatDoor
open Go.RowKit Go.Shelf TextNum
theorem grown_set1 (W : World) (b o : Nat) (v : Value) : W.grownBy (W.setCell ⟨b, o, none⟩ v) (some b) :=
 ⟨rfl, rfl, rfl, (KeepsWalks.setCell W _ v).size, fun k _ hk => Below.heap_setCell _ _ _ k (fun e => hk (by rw [e]))⟩
set_option maxRecDepth 100000 in
set_option maxHeartbeats 8000000 in
theorem request_walk (m t : ByteArray) (mi : Int) (an : Option Addr) (ns : List ByteArray) (cn : Nat) (av : Option Addr) (us : List ByteArray) (cv : Nat) (ab : Option Addr) (nb cb' : Nat) (bd : List UInt8) (pad : Int) (w : World) (hN : StL w an ns cn) (hV : StL w av us cv) (hB : Sb w (.slice ab nb cb') bd) (hnl : ns.length ≤ 1048576) (hbl : bd.length ≤ 1048576) :
  Calls Tryz.prog 16 #[.agg #[.string m, .string t, .int .i64 mi, .slice an ns.length cn, .slice av us.length cv, .slice ab nb cb', .int .i64 pad]] w fun e w' => (∃ a c v, e = .returned (.agg #[.string m, .string t, .int .i64 mi, .slice a ns.length c, v, .bool false]) ∧ Hd (FdO w' w.heap.size a (mkF ns us) c ∧ Ow w' w.heap.size v (pdd bd pad))) ∧ Up w w' := by
 have HN := Ho hN
 have HV := Ho hV
 have HB := Ho hB
 have hcap := hN.cap
 have hcapv := hV.cap
 obtain ⟨hbn, hbc, hbm⟩ := hB.len
 unfold maxLen at hbm
 clear hN hV hB hbn
 obtain ⟨F, hF⟩ := ny (mkF ns us)
 have HFl := Ho (show F.length = ns.length by rw [← hF, mkF_len])
 have HFg := Ho (show ∀ i (h : i < ns.length) (h' : i < F.length), F[i] = ⟨ns[i], vat us i⟩ by subst hF; exact fun i h h' => mkF_get h h')
 rw [hF]
 clear hF
 have HA0 := Ho ((at_new w 27 [.string m, .string t, .int .i64 mi, .slice an ns.length cn, .slice av us.length cv, .slice ab nb cb', .int .i64 pad]).up ((Up.refl _).alloc (.cells z6.toArray 48)))
 have HZ0 := Ho (at_new (w.alloc (.cells [.string m, .string t, .int .i64 mi, .slice an ns.length cn, .slice av us.length cv, .slice ab nb cb', .int .i64 pad].toArray 27)) 48 z6)
 have HU0 := Ho (((Up.refl w).alloc (.cells [.string m, .string t, .int .i64 mi, .slice an ns.length cn, .slice av us.length cv, .slice ab nb cb', .int .i64 pad].toArray 27)).alloc (.cells z6.toArray 48))
 rw [alloc_size] at HZ0
 go_enter Tryz.func16, Tryz.ntmps16
 go_wp2
 obtain ⟨w1, hw1⟩ := ny ((w.alloc (.cells [.string m, .string t, .int .i64 mi, .slice an ns.length cn, .slice av us.length cv, .slice ab nb cb', .int .i64 pad].toArray 27)).alloc (.cells z6.toArray 48))
 have HS1 := Ho (show w.heap.size + 1 < w1.heap.size by rw [← hw1, alloc_size, alloc_size]; omega)
 rw [hw1] at HA0 HU0 HZ0
 change Code.wp _ _ _ _ ((w.alloc (.cells [.string m, .string t, .int .i64 mi, .slice an ns.length cn, .slice av us.length cv, .slice ab nb cb', .int .i64 pad].toArray 27)).alloc (.cells z6.toArray 48))
 rw [hw1]
 clear hw1
 refine wp_region_held_drew (S := fun w2 => At w2 w.heap.size 27 [.string m, .string t, .int .i64 mi, .slice an ns.length cn, .slice av us.length cv, .slice ab nb cb', .int .i64 pad] ∧ At w2 (w.heap.size + 1) 48 z6 ∧ Up w w2) (by kernel_rfl) ⟨HA0.o.up (Up.refl _).drew, HZ0.o.up (Up.refl _).drew, HU0.o.drew⟩ (fun hS => ?_)
 refine tN 0 (some 5) (.fieldAddr 27 (.tmp 1) 0) 0 (.pointer (some ⟨w.heap.size, 0, none⟩)) hS ?_
 simp only [Act.put, pB, pC, pD]
 refine tK 1 (some 6) (.load 9 (.tmp 5)) 9 (.string m) hS ?_ ?_
 · intro _ _ w5 hSw
   have h0 := hSw.1.cell (i := 0) rfl
   clear hSw hS
   go_simp
 simp only [pA, pB, pC, pD]
 refine tN 2 (some 7) (.fieldAddr 27 (.tmp 1) 1) 0 (.pointer (some ⟨w.heap.size, 1, none⟩)) hS ?_
 simp only [pA, pB, pC, pD]
 refine tK 3 (some 8) (.load 9 (.tmp 7)) 9 (.string t) hS ?_ ?_
 · intro _ _ w5 hSw
   have h0 := hSw.1.cell (i := 1) rfl
   clear hSw hS
   go_simp
 simp only [pA, pB, pC, pD]
 refine tN 4 (some 9) (.fieldAddr 27 (.tmp 1) 2) 0 (.pointer (some ⟨w.heap.size, 2, none⟩)) hS ?_
 simp only [pA, pB, pC, pD]
 refine tK 5 (some 10) (.load 3 (.tmp 9)) 3 (.int .i64 mi) hS ?_ ?_
 · intro _ _ w5 hSw
   have h0 := hSw.1.cell (i := 2) rfl
   clear hSw hS
   go_simp
 simp only [pA, pB, pC, pD]
 refine tN 6 (some 11) (.fieldAddr 27 (.tmp 1) 5) 0 (.pointer (some ⟨w.heap.size, 5, none⟩)) hS ?_
 simp only [pA, pB, pC, pD]
 refine tK 7 (some 12) (.load 22 (.tmp 11)) 22 (.slice ab nb cb') hS ?_ ?_
 · intro _ _ w5 hSw
   have h0 := hSw.1.cell (i := 5) rfl
   clear hSw hS
   go_simp
 simp only [pA, pB, pC, pD]
 refine tN 8 (some 13) (.fieldAddr 27 (.tmp 1) 6) 0 (.pointer (some ⟨w.heap.size, 6, none⟩)) hS ?_
 simp only [pA, pB, pC, pD]
 refine tK 9 (some 14) (.load 3 (.tmp 13)) 3 (.int .i64 pad) hS ?_ ?_
 · intro _ _ w5 hSw
   have h0 := hSw.1.cell (i := 6) rfl
   clear hSw hS
   go_simp
 simp only [pA, pB, pC, pD]
 refine wpAnyH_ready (rs := [10, 12]) (by kernel_rfl) (by simp) ?_
 refine AllReadyH.cons (o := ⟨some 15, .call ⟨.value (.func 23), #[.tmp 12, .tmp 14], #[22, 3]⟩, 22, "law.go:106", #[eD 7, eD 9], none⟩) rfl (fun K hK => ?_) (AllReadyH.cons (o := ⟨some 3, .alloc 48, 0, "law.go:106", #[], none⟩) rfl (fun K hK => ?_) AllReadyH.nil)
 case' _ =>
  rw [if_pos (by kernel_rfl)]
  go_simp
  refine (padded_walk (.slice ab nb cb') bd pad (by omega) w1.drew (HB.o.up (HU0.o.drew))).mono ?_
  rintro e w2 ⟨v5, rfl, hO, h9⟩
  obtain ⟨a5, c5, rfl⟩ := row_len hO
  have HO2 := Ho (show Ow w2 w.heap.size _ (pdd bd pad) from ow_base hO (HU0.o.drew).size)
  have HU2 := Ho ((HU0.o.drew).trans h9)
  have HA2 := Ho ((HA0.o.up (Up.refl _).drew).up h9)
  have HZ2 := Ho ((HZ0.o.up (Up.refl _).drew).up h9)
  have Hs2 := Ho (show w1.drew.heap.size ≤ w2.heap.size from h9.size)
  clear h9 hO hS
  obtain ⟨L5, hL5⟩ := ny ((pdd bd pad).length)
  have HL5 := Ho hL5
  rw [hL5] at HO2 ⊢
  clear hL5
  dsimp only
  refine hK.out _ _ ⟨HA2.o, HZ2.o, HU2.o⟩ (fun hS => ?_)
  clear hK K
  refine tN 11 (some 16) (.build 48 #[(0, .tmp 6), (1, .tmp 8), (2, .tmp 10), (4, .tmp 15)]) 48 (.agg #[.string m, .string t, .int .i64 mi, .slice none 0 0, .slice a5 L5 c5, .bool false]) hS ?_
  simp only [Act.put, pB, pC, pD]
  refine rD 12 (some 3) (.alloc 48) 0 fun _ _ K hK => ?_
  rw [if_pos (by kernel_rfl)]
  go_simp
  have HR3 := Ho (at_new w2 48 z6)
  have HBr := Ho (show w.heap.size + 1 < w2.heap.size from Nat.lt_of_lt_of_le HS1.o (Nat.le_trans (Up.refl w1).drew.size Hs2.o))
  have HO3 := Ho (ow_up HO2.o ((Up.refl w2).alloc (.cells z6.toArray 48)))
  clear HO2
  refine hK.out _ _ ⟨hS.1.up ((Up.refl _).alloc _), hS.2.1.up ((Up.refl _).alloc _), hS.2.2.alloc _⟩ (fun hS => ?_)
  clear hK K
  refine rD 13 none (.store 48 (.tmp 3) (.tmp 16)) 0 fun _ _ K hK => oper_of_list ?_
  refine wpList_store_at rfl 48 _ _ rfl (w2.heap.size) HR3.o ([.string m, .string t, .int .i64 mi, .slice none 0 0, .slice a5 L5 c5, .bool false]) rfl rfl rfl (by kernel_rfl) (by kernel_rfl) ?_
  intro w4 hA4 hg4
  have HR4 := Ho hA4
  have HU4 := Ho (hS.2.2.by hg4 (fun g hg => by have := Option.some.inj hg; have := HBr.o; omega))
  have HA4 := Ho (hS.1.by hg4 (fun e => by have := Option.some.inj e; have := HBr.o; omega))
  have HZ4 := Ho (hS.2.1.by hg4 (fun e => by have := Option.some.inj e; have := HBr.o; omega))
  have HO4 := Ho (HO3.o.kept hg4 (.inr (own_ne HO3.o HR3.o (by decide))))
  clear hA4 hg4 HR3 HO3
  refine hK.out _ _ ⟨HA4.o, HZ4.o, HU4.o⟩ (fun hS => ?_)
  clear hK K hS
  refine wpAnyH_done (by kernel_rfl) ?_ _
  obtain ⟨Br, hBr⟩ := ny w2.heap.size
 rotate_left
 case' _ =>
  rw [if_pos (by kernel_rfl)]
  go_simp
  have HR1 := Ho (show At _ w1.heap.size 48 z6 from at_new w1.drew 48 z6)
  have HUa := Ho ((Up.refl w1.drew).alloc (.cells z6.toArray 48))
  have HBr := Ho (show w.heap.size + 1 < w1.heap.size from HS1.o)
  refine hK.out _ _ ⟨hS.1.up HUa.o, hS.2.1.up HUa.o, hS.2.2.trans HUa.o⟩ (fun hS => ?_)
  clear hK K
  refine rD 10 (some 15) (.call ⟨.value (.func 23), #[.tmp 12, .tmp 14], #[22, 3]⟩) 22 fun _ _ K hK => ?_
  rw [if_pos (by kernel_rfl)]
  go_simp
  refine (padded_walk (.slice ab nb cb') bd pad (by omega) _ (HB.o.up (HU0.o.drew.trans HUa.o))).mono ?_
  rintro e w2 ⟨v5, rfl, hO, h9⟩
  obtain ⟨a5, c5, rfl⟩ := row_len hO
  have HO2 := Ho (show Ow w2 w.heap.size _ (pdd bd pad) from ow_base hO (HU0.o.drew.trans HUa.o).size)
  have HU2 := Ho ((HU0.o.drew.trans HUa.o).trans h9)
  have HA2 := Ho (((HA0.o.up (Up.refl _).drew).up HUa.o).up h9)
  have HZ2 := Ho (((HZ0.o.up (Up.refl _).drew).up HUa.o).up h9)
  have HR3 := Ho (HR1.o.up h9)
  clear h9 hO hS
  obtain ⟨L5, hL5⟩ := ny ((pdd bd pad).length)
  have HL5 := Ho hL5
  rw [hL5] at HO2 ⊢
  clear hL5
  dsimp only
  refine hK.out _ _ ⟨HA2.o, HZ2.o, HU2.o⟩ (fun hS => ?_)
  clear hK K
  have HO3 := Ho HO2.o
  clear HO2
  refine tN 11 (some 16) (.build 48 #[(0, .tmp 6), (1, .tmp 8), (2, .tmp 10), (4, .tmp 15)]) 48 (.agg #[.string m, .string t, .int .i64 mi, .slice none 0 0, .slice a5 L5 c5, .bool false]) hS ?_
  simp only [Act.put, pB, pC, pD]
  refine rD 13 none (.store 48 (.tmp 3) (.tmp 16)) 0 fun _ _ K hK => oper_of_list ?_
  refine wpList_store_at rfl 48 _ _ rfl (w1.heap.size) HR3.o ([.string m, .string t, .int .i64 mi, .slice none 0 0, .slice a5 L5 c5, .bool false]) rfl rfl rfl (by kernel_rfl) (by kernel_rfl) ?_
  intro w4 hA4 hg4
  have HR4 := Ho hA4
  have HU4 := Ho (hS.2.2.by hg4 (fun g hg => by have := Option.some.inj hg; have := HBr.o; omega))
  have HA4 := Ho (hS.1.by hg4 (fun e => by have := Option.some.inj e; have := HBr.o; omega))
  have HZ4 := Ho (hS.2.1.by hg4 (fun e => by have := Option.some.inj e; have := HBr.o; omega))
  have HO4 := Ho (HO3.o.kept hg4 (.inr (own_ne HO3.o HR3.o (by decide))))
  clear hA4 hg4 HR3 HO3
  refine hK.out _ _ ⟨HA4.o, HZ4.o, HU4.o⟩ (fun hS => ?_)
  clear hK K hS
  refine wpAnyH_done (by kernel_rfl) ?_ _
  obtain ⟨Br, hBr⟩ := ny w1.heap.size
 all_goals
  rw [hBr] at HR4 HBr ⊢
  clear hBr
  go_wp2
  go_loopw [4] (fun v4 wr => ∃ i : Nat, v4 = .int .i64 (i : Int) ∧ i ≤ ns.length ∧ Hd (∃ a7 c7, At wr Br 48 [.string m, .string t, .int .i64 mi, .slice a7 i c7, .slice a5 L5 c5, .bool false] ∧ FdO wr w.heap.size a7 (F.take i) c7 ∧ wr.ownsRow w.heap.size 5 1 (.slice a5 L5 c5) L5 (cb (pdd bd pad)) ∧ At wr w.heap.size 27 [.string m, .string t, .int .i64 mi, .slice an ns.length cn, .slice av us.length cv, .slice ab nb cb', .int .i64 pad] ∧ At wr (w.heap.size + 1) 48 z6 ∧ Up w wr)) (fun v4 _ => ns.length - (intOf v4).toNat)
  case atStart => exact ⟨0, rfl, Nat.zero_le _, Ho ⟨none, 0, HR4.o, World.ownsRow_nil _ _ _ _, (by have h := HO4.o; rw [HL5.o] at h; exact h), HA4.o, HZ4.o, HU4.o⟩⟩
  case round =>
   obtain ⟨i, rfl, hi, hQ⟩ := hrel
   obtain ⟨a7, c7, q1, q2, q3, q4, q5, q6⟩ := hQ.o
   have HR7 := Ho q1
   have HF7 := Ho q2
   have HO7 := Ho q3
   have HA7 := Ho q4
   have HZ7 := Ho q5
   have HU7 := Ho q6
   have h3 := q4.cell (i := 3) rfl
   clear hQ q1 q2 q3 q4 q5 q6
   by_cases hil : i < ns.length
   · have hilz : (i : Int) < (ns.length : Int) := by omega
     have hif : i < F.length := by rw [HFl.o]; exact hil
     obtain ⟨b, off, han, k1⟩ := HN.o.cells i hil
     have HAn := Ho han
     clear han
     have HT := Ho (List.take_succ_eq_append_getElem hif)
     have HLn := Ho (show (F.take i).length = i by rw [List.length_take]; omega)
     have hfg := HFg.o i hil hif
     obtain ⟨f, hf⟩ := ny (F[i])
     rw [hf] at HT hfg
     have HFv := Ho (show vat us i = f.v by rw [hfg])
     have HK1 := Ho (show w.cell? ⟨b, off + i, none⟩ = some (.string f.n) by rw [k1, hfg])
     clear hf hfg k1
     have HRd := Ho (HR7.o.up (Up.refl wr).drew)
     have HFd := Ho (ow_up HF7.o (Up.refl wr).drew)
     have HFd' := Ho (show wr.drew.ownsRow w.heap.size 89 2 (.slice a7 i c7) i (fdc (F.take i)) by have := HFd.o; rw [HLn.o] at this; exact this)
     have HOd := Ho (ow_up HO7.o (Up.refl wr).drew)
     have HAd := Ho (HA7.o.up (Up.refl wr).drew)
     have HZd := Ho (HZ7.o.up (Up.refl wr).drew)
     go_wp2
     refine wp_region_held_drew (S := fun w2 => At w2 w.heap.size 27 [.string m, .string t, .int .i64 mi, .slice an ns.length cn, .slice av us.length cv, .slice ab nb cb', .int .i64 pad] ∧ At w2 (w.heap.size + 1) 48 z6 ∧ Up w w2) (by kernel_rfl) ⟨HA7.o.up (Up.refl _).drew, HZ7.o.up (Up.refl _).drew, HU7.o.drew⟩ (fun hS => ?_)
     refine tN 0 (some 24) (.fieldAddr 48 (.tmp 3) 3) 0 (.pointer (some ⟨Br, 3, none⟩)) hS ?_
     simp only [Act.put, pB, pC, pD]
     refine tN 2 (some 26) (.fieldAddr 27 (.tmp 1) 3) 0 (.pointer (some ⟨w.heap.size, 3, none⟩)) hS ?_
     simp only [pA, pB, pC, pD]
     refine tK 3 (some 27) (.load 25 (.tmp 26)) 25 (.slice (some ⟨b, off, none⟩) ns.length cn) hS ?_ ?_
     · intro _ _ w5 hSw
       have h0 := hSw.1.cell (i := 3) rfl
       rw [HAn.o] at h0
       clear hSw hS
       go_simp
     simp only [pA, pB, pC, pD]
     refine tN 4 (some 28) (.move (.tmp 4)) 3 (.int .i64 (i : Int)) hS ?_
     simp only [pA, pB, pC, pD]
     refine tN 5 (some 29) (.indexAddr 25 (.tmp 27) (.tmp 28)) 0 (.pointer (some ⟨b, off + i, none⟩)) hS ?_
     simp only [pA, pB, pC, pD]
     refine tK 6 (some 30) (.load 9 (.tmp 29)) 9 (.string f.n) hS ?_ ?_
     · intro _ _ w5 hSw
       have h0 := hSw.2.2.cell HK1.o
       clear hSw hS
       go_simp
     simp only [pA, pB, pC, pD]
     refine tN 7 (some 31) (.fieldAddr 27 (.tmp 1) 4) 0 (.pointer (some ⟨w.heap.size, 4, none⟩)) hS ?_
     simp only [pA, pB, pC, pD]
     refine tK 8 (some 32) (.load 25 (.tmp 31)) 25 (.slice av us.length cv) hS ?_ ?_
     · intro _ _ w5 hSw
       have h0 := hSw.1.cell (i := 4) rfl
       clear hSw hS
       go_simp
     simp only [pA, pB, pC, pD]
     refine tN 9 (some 33) (.move (.tmp 4)) 3 (.int .i64 (i : Int)) hS ?_
     simp only [pA, pB, pC, pD]
     refine wpAnyH_ready (rs := [1, 10]) (by kernel_rfl) (by simp) ?_
     refine AllReadyH.cons (o := ⟨some 25, .load 36 (.tmp 24), 36, "law.go:108", #[eD 0], none⟩) rfl (fun K hK => ?_) (AllReadyH.cons (o := ⟨some 34, .call ⟨.value (.func 42), #[.tmp 32, .tmp 33], #[25, 3]⟩, 9, "law.go:108", #[eD 8, eD 9], none⟩) rfl (fun K hK => ?_) AllReadyH.nil)
     · rw [if_pos (by kernel_rfl)]
       have k3 := HRd.o.cell (i := 3) rfl
       go_simp
       refine hK.out _ _ hS (fun hS => ?_)
       clear hK K k3
       refine rD 10 (some 34) (.call ⟨.value (.func 42), #[.tmp 32, .tmp 33], #[25, 3]⟩) 9 fun _ _ K hK => ?_
       rw [if_pos (by kernel_rfl)]
       go_simp
       refine (value_walk av us cv i wr.drew (HV.o.up HU7.o.drew)).mono ?_
       rintro e w5 ⟨rfl, h9⟩
       obtain rfl := h9.symm
       clear h9
       rw [HFv.o]
       dsimp only
       refine hK.out _ _ hS (fun hS => ?_)
       clear hK K
       refine tN 11 (some 35) (.build 89 #[(0, .tmp 30), (1, .tmp 34)]) 89 (.agg #[.string f.n, .string f.v]) hS ?_
       simp only [Act.put, pB, pC, pD]
       refine rD 12 (some 36) (.buildSlice 36 1 #[(0, .tmp 35)]) 36 fun _ _ K hK => ?_
       rw [if_pos (by kernel_rfl)]
       go_simp
       refine hK.out _ _ ⟨hS.1.up ((Up.refl _).alloc _), hS.2.1.up ((Up.refl _).alloc _), hS.2.2.alloc _⟩ (fun hS => ?_)
       clear hK K
       refine rD 13 (some 37) (.call ⟨.builtin .append, #[.tmp 25, .tmp 36], #[36, 36]⟩) 36 fun _ _ K hK => oper_of_list ?_
       refine wpList_appFd (w := wr.drew) (N := w.heap.size) rfl _ _ rfl a7 c7 (F.take i) f HLn.o rfl rfl HFd.o HU7.o.drew.size (by omega) ?_
       intro ax2 cx2 w7 o7 u7 g7
       have HU8 := Ho (u7 w HU7.o.drew (Nat.le_refl _))
       have HR8 := Ho (HRd.o.by g7 (own_ne HFd'.o HRd.o (by decide)))
       have HA8 := Ho (HAd.o.by g7 (own_ne HFd'.o HAd.o (by decide)))
       have HZ8 := Ho (HZd.o.by g7 (own_ne HFd'.o HZd.o (by decide)))
       have HB8 := Ho (HOd.o.kept g7 (own_off HOd.o HFd'.o (by decide)))
       have HF8 := Ho (show FdO w7 w.heap.size ax2 (F.take (i + 1)) cx2 by rw [HT.o]; exact o7)
       clear o7 u7 g7
       refine hK.out _ _ ⟨HA8.o, HZ8.o, HU8.o⟩ (fun hS => ?_)
       clear hK K
       simp only [Act.put, pB, pC, pD]
       refine tN 14 (some 38) (.fieldAddr 48 (.tmp 3) 3) 0 (.pointer (some ⟨Br, 3, none⟩)) hS ?_
       simp only [pA, pB, pC, pD]
       refine rD 15 none (.store 36 (.tmp 38) (.tmp 37)) 0 fun _ _ K hK => ?_
       have k3 := HR8.o.cell (i := 3) rfl
       have f3 := HR8.o.thaw 3
       have G8 := grown_set1 w7 Br 3 (.slice ax2 (i + 1) cx2)
       have HR9 := Ho (HR8.o.set 3 (.slice ax2 (i + 1) cx2))
       have HU9 := Ho (HU8.o.by G8 (fun g hg => by have := Option.some.inj hg; have := HBr.o; omega))
       have HA9 := Ho (HA8.o.by G8 (fun e => by have := Option.some.inj e; have := HBr.o; omega))
       have HZ9 := Ho (HZ8.o.by G8 (fun e => by have := Option.some.inj e; have := HBr.o; omega))
       have HB9 := Ho (HB8.o.kept G8 (.inr (own_ne HB8.o HR8.o (by decide))))
       have HF9 := Ho (show FdO (w7.setCell ⟨Br, 3, none⟩ (.slice ax2 (i + 1) cx2)) w.heap.size ax2 (F.take (i + 1)) cx2 from HF8.o.kept G8 (.inr (own_ne HF8.o HR8.o (by decide))))
       clear G8
       rw [if_pos (by kernel_rfl)]
       go_simp
       refine hK.out _ _ ⟨HA9.o, HZ9.o, HU9.o⟩ (fun hS => ?_)
       clear hK K hS
       refine wpAnyH_done (by kernel_rfl) ?_ _
       go_wp2
       go_roundw
       all_goals first
        | exact ⟨i + 1, by go_num, by omega, Ho ⟨ax2, cx2, HR9.o, HF9.o, HB9.o, HA9.o, HZ9.o, HU9.o⟩⟩
        | (simp [intOf]; omega)
     rw [if_pos (by kernel_rfl)]
     go_simp
     refine (value_walk av us cv i wr.drew (HV.o.up HU7.o.drew)).mono ?_
     rintro e w5 ⟨rfl, h9⟩
     obtain rfl := h9.symm
     clear h9
     rw [HFv.o]
     dsimp only
     refine hK.out _ _ hS (fun hS => ?_)
     clear hK K
     refine tN 11 (some 35) (.build 89 #[(0, .tmp 30), (1, .tmp 34)]) 89 (.agg #[.string f.n, .string f.v]) hS ?_
     simp only [Act.put, pB, pC, pD]
     refine wpAnyH_ready (rs := [1, 12]) (by kernel_rfl) (by simp) ?_
     refine AllReadyH.cons (o := ⟨some 25, .load 36 (.tmp 24), 36, "law.go:108", #[eD 0], none⟩) rfl (fun K hK => ?_) (AllReadyH.cons (o := ⟨some 36, .buildSlice 36 1 #[(0, .tmp 35)], 36, "law.go:108", #[eD 11], none⟩) rfl (fun K hK => ?_) AllReadyH.nil)
     case' _ =>
      rw [if_pos (by kernel_rfl)]
      have k3 := HRd.o.cell (i := 3) rfl
      go_simp
      refine hK.out _ _ hS (fun hS => ?_)
      clear hK K k3
      refine rD 12 (some 36) (.buildSlice 36 1 #[(0, .tmp 35)]) 36 fun _ _ K hK => ?_
      rw [if_pos (by kernel_rfl)]
      go_simp
      refine hK.out _ _ ⟨hS.1.up ((Up.refl _).alloc _), hS.2.1.up ((Up.refl _).alloc _), hS.2.2.alloc _⟩ (fun hS => ?_)
      clear hK K
     rotate_left
     case' _ =>
      rw [if_pos (by kernel_rfl)]
      go_simp
      refine hK.out _ _ ⟨hS.1.up ((Up.refl _).alloc _), hS.2.1.up ((Up.refl _).alloc _), hS.2.2.alloc _⟩ (fun hS => ?_)
      clear hK K
      refine rD 1 (some 25) (.load 36 (.tmp 24)) 36 fun _ _ K hK => ?_
      rw [if_pos (by kernel_rfl)]
      have k3 := ((HR7.o.up ((Up.refl wr).alloc (.cells #[.string f.n, .string f.v] 89))).up (Up.refl _).drew).cell (i := 3) rfl
      go_simp
      refine hK.out _ _ hS (fun hS => ?_)
      clear hK K k3
     all_goals
      refine rD 13 (some 37) (.call ⟨.builtin .append, #[.tmp 25, .tmp 36], #[36, 36]⟩) 36 fun _ _ K hK => oper_of_list ?_
      refine wpList_appFd (w := wr.drew) (N := w.heap.size) rfl _ _ rfl a7 c7 (F.take i) f HLn.o rfl rfl HFd.o HU7.o.drew.size (by omega) ?_
      intro ax2 cx2 w7 o7 u7 g7
      have HU8 := Ho (u7 w HU7.o.drew (Nat.le_refl _))
      have HR8 := Ho (HRd.o.by g7 (own_ne HFd'.o HRd.o (by decide)))
      have HA8 := Ho (HAd.o.by g7 (own_ne HFd'.o HAd.o (by decide)))
      have HZ8 := Ho (HZd.o.by g7 (own_ne HFd'.o HZd.o (by decide)))
      have HB8 := Ho (HOd.o.kept g7 (own_off HOd.o HFd'.o (by decide)))
      have HF8 := Ho (show FdO w7 w.heap.size ax2 (F.take (i + 1)) cx2 by rw [HT.o]; exact o7)
      clear o7 u7 g7
      refine hK.out _ _ ⟨HA8.o, HZ8.o, HU8.o⟩ (fun hS => ?_)
      clear hK K
      simp only [Act.put, pB, pC, pD]
      refine tN 14 (some 38) (.fieldAddr 48 (.tmp 3) 3) 0 (.pointer (some ⟨Br, 3, none⟩)) hS ?_
      simp only [pA, pB, pC, pD]
      refine rD 15 none (.store 36 (.tmp 38) (.tmp 37)) 0 fun _ _ K hK => ?_
      have k3 := HR8.o.cell (i := 3) rfl
      have f3 := HR8.o.thaw 3
      have G8 := grown_set1 w7 Br 3 (.slice ax2 (i + 1) cx2)
      have HR9 := Ho (HR8.o.set 3 (.slice ax2 (i + 1) cx2))
      have HU9 := Ho (HU8.o.by G8 (fun g hg => by have := Option.some.inj hg; have := HBr.o; omega))
      have HA9 := Ho (HA8.o.by G8 (fun e => by have := Option.some.inj e; have := HBr.o; omega))
      have HZ9 := Ho (HZ8.o.by G8 (fun e => by have := Option.some.inj e; have := HBr.o; omega))
      have HB9 := Ho (HB8.o.kept G8 (.inr (own_ne HB8.o HR8.o (by decide))))
      have HF9 := Ho (show FdO (w7.setCell ⟨Br, 3, none⟩ (.slice ax2 (i + 1) cx2)) w.heap.size ax2 (F.take (i + 1)) cx2 from HF8.o.kept G8 (.inr (own_ne HF8.o HR8.o (by decide))))
      clear G8
      rw [if_pos (by kernel_rfl)]
      go_simp
      refine hK.out _ _ ⟨HA9.o, HZ9.o, HU9.o⟩ (fun hS => ?_)
      clear hK K hS
      refine wpAnyH_done (by kernel_rfl) ?_ _
      go_wp2
      go_roundw
      all_goals first
       | exact ⟨i + 1, by go_num, by omega, Ho ⟨ax2, cx2, HR9.o, HF9.o, HB9.o, HA9.o, HZ9.o, HU9.o⟩⟩
       | (simp [intOf]; omega)
   have hilz : ¬ (i : Int) < (ns.length : Int) := by omega
   have hin : i = ns.length := by omega
   subst hin
   have HF8 := Ho (show FdO wr w.heap.size a7 F c7 by
    have h1 := HF7.o
    rw [List.take_of_length_le (by rw [HFl.o]; exact Nat.le_refl _)] at h1
    exact h1)
   go_wp2_with (with_reducible refine sL 48 ?_)
   show wpList _ _ _ _ _ _
   refine wpList_load_mid rfl _ _ rfl Br 0 rfl _ _ HR7.o.range Tryz.underlying48 rfl (by kernel_rfl) ?_
   simp only [Act.put, pB, pC, pD]
   refine wpList_store_at rfl 48 _ _ rfl (w.heap.size + 1) HZ7.o [.string m, .string t, .int .i64 mi, .slice a7 ns.length c7, .slice a5 L5 c5, .bool false] rfl rfl rfl (by kernel_rfl) (by kernel_rfl) ?_
   intro w8 hA8 hg8
   have HA8 := Ho hA8
   have HU8 := Ho (HU7.o.bz hg8)
   have HF9 := Ho (show FdO w8 w.heap.size a7 F c7 from HF8.o.kept hg8 (.inr (own_ne HF8.o HZ7.o (by decide))))
   have HO9 := Ho (HO7.o.kept hg8 (.inr (own_ne HO7.o HZ7.o (by decide))))
   clear hA8 hg8
   simp only [Act.put]
   repeat go_step
   refine bodyPost_ret (results_agg1 Tryz.results16 _ _ (w.heap.size + 1) [.string m, .string t, .int .i64 mi, .slice a7 ns.length c7, .slice a5 L5 c5, .bool false] rfl HA8.o.range Tryz.underlying48 rfl (by kernel_rfl)) rfl ?_
   exact ⟨⟨a7, c7, _, rfl, Ho ⟨HF9.o, by unfold Ow; rw [HL5.o]; exact HO9.o⟩⟩, HU8.o⟩
end Go.Proofs.YtehnnlhoajdcaaaGreatDoor
