import Derived.Test.YtbgjnghjddcooaaGreatDoorZb
namespace Go.Proofs.YtbgjnghjddcooaaGreatDoor
open Go.RowKit Go.Shelf TextNum
theorem rqg_er {st fl : List UInt8} {k : Nat} (h : rqg st fl = .error k) : k < 12 := by
  unfold rqg at h
  split at h
  · rename_i he
    injection h with h
    subst h
    exact rql_er he
  · split at h
    · rename_i he
      injection h with h
      subst h
      exact rdf_er he
    · split at h
      · rename_i he
        injection h with h
        subst h
        have := ckh_er he
        omega
      · split at h
        · rename_i he
          injection h with h
          subst h
          have := frm_er he
          omega
        · cases h
theorem msg_lt {X Y : Type} {pl : Nat} {g : List UInt8 → List UInt8 → Er (X × Int × Nat)} {mk : X → Int → List UInt8 → Y} {l : List UInt8} {k : Nat} (hp : pl < 12) (hg : ∀ st fl k, g st fl = .error k → k < 12) (h : msg pl g mk l = .error k) : k < 24 := by
  unfold msg at h
  split at h
  · rename_i he
    injection h with h
    subst h
    have := cHd_er he
    omega
  · split at h
    · rename_i he
      injection h with h
      subst h
      have := hg _ _ _ he
      omega
    · split at h
      · rename_i he
        injection h with h
        subst h
        have := fcu_er he
        omega
      · cases h
theorem rqP_lt {l : List UInt8} {k : Nat} (h : rqP l = .error k) : k < 24 := msg_lt (by decide) (fun _ _ _ => rqg_er) h
def PqR (w w' : World) (e : Ending) : Er ((Rq × List UInt8) × Nat) → Prop
  | .error k => e = .returned (.tuple #[.agg z6.toArray, .int .i64 0, .int .i64 (numK k)])
  | .ok ((x, b), n) => ∃ a c v, e = .returned (.tuple #[rqV x a c v, .int .i64 (n : Int), .int .i64 0]) ∧ Hid (FdO w' w.heap.size a x.fs c ∧ Ow w' w.heap.size v b)
set_option maxRecDepth 100000 in
set_option maxHeartbeats 4000000 in
theorem ParseRequest_walk (ad : Nat → Addr) {a : Option Addr} {n c : Nat} {ds : List UInt8} (hn40 : n ≤ 1099511627776) (w : World) (hS : Sb w (.slice a n c) ds) (hW : GW w ad) : Calls Tryz.prog 11 #[.slice a n c] w fun e w' => PqR w w' e (rqP ds) ∧ Up w w' := by
  have HW := Hid.of hW
  have HA0 := Hid.of (at_new w 27 z6)
  have HU0 := Hid.of ((Up.refl w).alloc (.cells z6.toArray 27))
  have HRq := Hid.of (readRequest_walk ad hn40 (w.alloc (.cells z6.toArray 27)) (hS.up HU0.out) (hW.up HU0.out))
  clear hW hS
  go_enter Tryz.func11, Tryz.ntmps11
  go_wp2_with fail
  change Calls _ _ _ (w.alloc (.cells z6.toArray 27)) _
  generalize w.alloc (.cells z6.toArray 27) = w1 at *
  refine HRq.out.mono ?_
  rintro e w2 ⟨hR, h9⟩
  have HU2 := Hid.of (HU0.out.trans h9)
  have HA2 := Hid.of (HA0.out.up h9)
  clear h9 HRq
  cases hr : rqP ds with
  | error k =>
    rw [hr] at hR
    obtain rfl : e = _ := hR
    have hk := rqP_lt hr
    have hne := er_neq ad k
    have hge := er_grd ad k
    have HE := Hid.of hr
    unfold z6
    dsimp only
    clear hr
    go_wp2_with fail
    have HU3 := Hid.of (HU2.out.alloc (.cells #[.string ⟨#[]⟩, .string ⟨#[]⟩, .int .i64 0, .slice none 0 0, .slice none 0 0, .bool false] 27))
    refine (numberOf_any ad k hk _ (HW.out.up HU3.out).ge).mono ?_
    rintro e w4 ⟨rfl, h9⟩
    have HU4 := Hid.of (HU3.out.trans h9)
    have HA4 := Hid.of ((HA2.out.up ((Up.refl w2).alloc _)).up h9)
    clear h9
    dsimp only
    go_wp2_with (with_reducible show wpList _ _ _ ({ dst := _, op := Op.store 27 (Operand.tmp 2) _, type := _, pos := _, after := _, guard := _ } :: _) _ _; refine Shut.out ?_)
    show wpList _ _ _ _ _ _
    refine wpList_store_at rfl 27 _ _ rfl (w.heap.size) HA4.out z6 rfl rfl rfl (by kernel_rfl) (by kernel_rfl) ?_
    intro w8 hA8 hg8
    have HA8 := Hid.of hA8
    have HU8 := Hid.of (HU4.out.by hg8 (fun g hg => by have := Option.some.inj hg; omega))
    clear hA8 hg8
    simp only [Act.put]
    repeat go_step
    refine bodyPost_ret (result_cell_tmp2 Tryz.results11 _ _ (w.heap.size) z6 _ _ rfl rfl rfl HA8.out.range Tryz.underlying27 rfl (by kernel_rfl)) rfl ?_
    rw [HE.out]
    exact ⟨rfl, HU8.out⟩
  | ok q =>
    obtain ⟨⟨x, b⟩, m⟩ := q
    rw [hr] at hR
    obtain ⟨af, cf, v, rfl, hO⟩ := hR
    have HF2 := Hid.of (ow_base hO.out.1 HU0.out.size)
    have HB2 := Hid.of (ow_base hO.out.2 HU0.out.size)
    have HE := Hid.of hr
    clear hO hr
    obtain ⟨aB, nB, cB, rfl⟩ := Sb.shape (Ow.sb HB2.out)
    obtain ⟨rl, hrl⟩ : ∃ rl, rl = rqV x af cf (.slice aB nB cB) := ⟨_, rfl⟩
    have HRl := Hid.of hrl
    rw [← hrl]
    obtain ⟨xm, hxm⟩ : ∃ xm, xm = vs x.m := ⟨_, rfl⟩
    obtain ⟨xt, hxt⟩ : ∃ xt, xt = vs x.t := ⟨_, rfl⟩
    obtain ⟨cl, hcl⟩ : ∃ cl, cl = cls (x.mi == 0) x.fs := ⟨_, rfl⟩
    obtain ⟨nf, hnf⟩ : ∃ nf, nf = x.fs.length := ⟨_, rfl⟩
    have HRv := Hid.of (show rqV x af cf (.slice aB nB cB) = .agg #[vs x.m, vs x.t, .int .i64 x.mi, .slice af nf cf, .slice aB nB cB, .bool cl] by unfold rqV; rw [hcl, hnf])
    rw [hrl, HRv.out]
    clear hrl hxm hxt hcl hnf HRl
    have HA3 := Hid.of (at_new w2 27 [vs x.m, vs x.t, .int .i64 x.mi, .slice af nf cf, .slice aB nB cB, .bool cl])
    have HU3 := Hid.of ((Up.refl w2).alloc (.cells [vs x.m, vs x.t, .int .i64 x.mi, .slice af nf cf, .slice aB nB cB, .bool cl].toArray 27))
    go_wp2_with (with_reducible show wpList _ _ _ ({ dst := _, op := Op.load 27 _, type := _, pos := _, after := _, guard := _ } :: _) _ _; refine Shut.out ?_)
    show wpList _ _ _ _ _ _
    refine wpList_load_mid rfl _ _ rfl w2.heap.size 0 rfl [vs x.m, vs x.t, .int .i64 x.mi, .slice af nf cf, .slice aB nB cB, .bool cl] _ HA3.out.range Tryz.underlying27 rfl (by kernel_rfl) ?_
    simp only [Act.put, List.setIfInBounds_toArray, List.set_cons_zero, List.set_cons_succ]
    go_wp2_with (with_reducible show wpList _ _ _ ({ dst := _, op := Op.store 27 (Operand.tmp 2) _, type := _, pos := _, after := _, guard := _ } :: _) _ _; refine Shut.out ?_)
    show wpList _ _ _ _ _ _
    refine wpList_store_at rfl 27 _ _ rfl (w.heap.size) (HA2.out.up HU3.out) [vs x.m, vs x.t, .int .i64 x.mi, .slice af nf cf, .slice aB nB cB, .bool cl] rfl rfl rfl (by kernel_rfl) (by kernel_rfl) ?_
    intro w8 hA8 hg8
    have HA8 := Hid.of hA8
    have HU8 := Hid.of ((HU2.out.trans HU3.out).by hg8 (fun g hg => by have := Option.some.inj hg; omega))
    have HF8 := Hid.of ((ow_up HF2.out HU3.out).kept hg8 (.inr (own_ne HF2.out HA2.out (by decide))))
    have HO8 := Hid.of ((ow_up HB2.out HU3.out).kept hg8 (.inr (own_ne HB2.out HA2.out (by decide))))
    clear hA8 hg8
    simp only [Act.put]
    repeat go_step
    refine bodyPost_ret (result_cell_tmp2 Tryz.results11 _ _ (w.heap.size) [vs x.m, vs x.t, .int .i64 x.mi, .slice af nf cf, .slice aB nB cB, .bool cl] _ _ rfl rfl rfl HA8.out.range Tryz.underlying27 rfl (by kernel_rfl)) rfl ?_
    rw [HE.out]
    exact ⟨⟨af, cf, .slice aB nB cB, congrArg (fun y => Ending.returned (.tuple #[y, .int .i64 (m : Int), .int .i64 0])) HRv.out.symm, Hid.of ⟨HF8.out, HO8.out⟩⟩, HU8.out⟩
/-- statuses -/
def sto (z : Int) : Bool := decide (100 ≤ z) && decide (z ≤ 599)
def bdl (z : Int) : Bool := (decide (100 ≤ z) && decide (z ≤ 199)) || (z == 204) || (z == 304)
set_option maxRecDepth 100000 in
theorem isStatus_walk (z : Int) (w : World) : Calls Tryz.prog 73 #[.int .i64 z] w fun e w' => e = .returned (.bool (sto z)) ∧ w' = w := by
  by_cases h1 : 100 ≤ z
  · have d1 : decide (100 ≤ z) = true := decide_eq_true h1
    go_enter Tryz.func73, Tryz.ntmps73
    go_wp2
    go_ret
    exact ⟨by unfold sto; rw [d1]; rfl, rfl⟩
  · have d1 : decide (100 ≤ z) = false := decide_eq_false h1
    go_enter Tryz.func73, Tryz.ntmps73
    go_wp2
    go_ret
    exact ⟨by unfold sto; rw [d1]; rfl, rfl⟩
set_option maxRecDepth 100000 in
theorem isBodiless_walk (z : Int) (w : World) : Calls Tryz.prog 43 #[.int .i64 z] w fun e w' => e = .returned (.bool (bdl z)) ∧ w' = w := by
  obtain ⟨rv, hrv⟩ : ∃ rv, bdl z = rv := ⟨_, rfl⟩
  have HR := Hid.of hrv
  rw [hrv]
  clear hrv
  unfold bdl at HR
  by_cases h0 : 100 ≤ z ∧ z ≤ 199
  · have h1 := h0.1
    have h2 := h0.2
    have HE := Hid.of (show rv = true by rw [← HR.out, decide_eq_true h1, decide_eq_true h2]; rfl)
    clear h0
    go_enter Tryz.func43, Tryz.ntmps43
    go_wp2
    go_ret
    rw [HE.out]
    exact ⟨rfl, rfl⟩
  · have hd : (decide (100 ≤ z) && decide (z ≤ 199)) = false := by
      rw [Bool.and_eq_false_iff, decide_eq_false_iff_not, decide_eq_false_iff_not]; omega
    have HR2 := Hid.of (show rv = ((z == 204) || (z == 304)) by rw [← HR.out, hd]; rfl)
    clear HR hd
    cases h4 : (z == 204) with
    | true =>
      rw [h4] at HR2
      have HE := Hid.of (show rv = true from HR2.out)
      have hz : z = 204 := by simpa using h4
      subst hz
      clear h0
      go_enter Tryz.func43, Tryz.ntmps43
      go_wp2
      go_ret
      rw [HE.out]
      exact ⟨rfl, rfl⟩
    | false =>
      rw [h4] at HR2
      have HE := Hid.of (show rv = (z == 304) by rw [HR2.out]; rfl)
      by_cases h1 : 100 ≤ z
      · have h2 : ¬ z ≤ 199 := by omega
        clear h0
        go_enter Tryz.func43, Tryz.ntmps43
        go_wp2
        go_ret
        rw [HE.out]
        exact ⟨rfl, rfl⟩
      · clear h0
        go_enter Tryz.func43, Tryz.ntmps43
        go_wp2
        go_ret
        rw [HE.out]
        exact ⟨rfl, rfl⟩
end Go.Proofs.YtbgjnghjddcooaaGreatDoor
