import Derived.Test.YtmhelmkninpaoaaGreatDoorZe
namespace Go.Proofs.YtmhelmkninpaoaaGreatDoor
open Go.RowKit Go.Shelf TextNum
theorem rsg_er {st fl : List UInt8} {k : Nat} (h : rsg st fl = .error k) : k < 12 := by
  unfold rsg at h
  split at h
  · rename_i he
    injection h with h
    subst h
    exact rsl_er he
  · split at h
    · rename_i he
      injection h with h
      subst h
      exact rdf_er he
    · split at h
      · rename_i he
        injection h with h
        subst h
        exact rsF_er he
      · cases h
theorem rsP_lt {l : List UInt8} {k : Nat} (h : rsP l = .error k) : k < 24 := msg_lt (by decide) (fun _ _ _ => rsg_er) h
def PsR (w w' : World) (e : Ending) : Er ((Rs × Bool × List UInt8) × Nat) → Prop
  | .error k => e = .returned (.tuple #[.agg z5.toArray, .int .i64 0, .int .i64 (numK k)])
  | .ok ((x, cl, b), n) => ∃ a c v, e = .returned (.tuple #[rsV x cl a c v, .int .i64 (n : Int), .int .i64 0]) ∧ Hid (FdO w' w.heap.size a x.fs c ∧ Ow w' w.heap.size v b)
set_option maxRecDepth 100000 in
set_option maxHeartbeats 4000000 in
theorem ParseResponse_walk (ad : Nat → Addr) {a : Option Addr} {n c : Nat} {ds : List UInt8} (hn40 : n ≤ 1099511627776) (w : World) (hS : Sb w (.slice a n c) ds) (hW : GW w ad) : Calls Tryz.prog 13 #[.slice a n c] w fun e w' => PsR w w' e (rsP ds) ∧ Up w w' := by
  have HW := Hid.of hW
  have HA0 := Hid.of (at_new w 33 z5)
  have HU0 := Hid.of ((Up.refl w).alloc (.cells z5.toArray 33))
  have HRq := Hid.of (readResponse_walk ad hn40 (w.alloc (.cells z5.toArray 33)) (hS.up HU0.out) (hW.up HU0.out))
  clear hW hS
  go_enter Tryz.func13, Tryz.ntmps13
  go_wp2_with fail
  change Calls _ _ _ (w.alloc (.cells z5.toArray 33)) _
  generalize w.alloc (.cells z5.toArray 33) = w1 at *
  refine HRq.out.mono ?_
  rintro e w2 ⟨hR, h9⟩
  have HU2 := Hid.of (HU0.out.trans h9)
  have HA2 := Hid.of (HA0.out.up h9)
  clear h9 HRq
  cases hr : rsP ds with
  | error k =>
    rw [hr] at hR
    obtain rfl : e = _ := hR
    have hk := rsP_lt hr
    have hne := er_neq ad k
    have hge := er_grd ad k
    have HE := Hid.of hr
    unfold z5
    dsimp only
    clear hr
    go_wp2_with fail
    have HU3 := Hid.of (HU2.out.alloc (.cells #[.int .i64 0, .int .i64 0, .slice none 0 0, .slice none 0 0, .bool false] 33))
    refine (numberOf_any ad k hk _ (HW.out.up HU3.out).ge).mono ?_
    rintro e w4 ⟨rfl, h9⟩
    have HU4 := Hid.of (HU3.out.trans h9)
    have HA4 := Hid.of ((HA2.out.up ((Up.refl w2).alloc _)).up h9)
    clear h9
    dsimp only
    go_wp2_with (with_reducible show wpList _ _ _ ({ dst := _, op := Op.store 33 (Operand.tmp 2) _, type := _, pos := _, after := _, guard := _ } :: _) _ _; refine Shut.out ?_)
    show wpList _ _ _ _ _ _
    refine wpList_store_at rfl 33 _ _ rfl (w.heap.size) HA4.out z5 rfl rfl rfl (by kernel_rfl) (by kernel_rfl) ?_
    intro w8 hA8 hg8
    have HA8 := Hid.of hA8
    have HU8 := Hid.of (HU4.out.by hg8 (fun g hg => by have := Option.some.inj hg; omega))
    clear hA8 hg8
    simp only [Act.put]
    repeat go_step
    refine bodyPost_ret (result_cell_tmp2 Tryz.results13 _ _ (w.heap.size) z5 _ _ rfl rfl rfl HA8.out.range Tryz.underlying33 rfl (by kernel_rfl)) rfl ?_
    rw [HE.out]
    exact ⟨rfl, HU8.out⟩
  | ok q =>
    obtain ⟨⟨x, cl, b⟩, m⟩ := q
    rw [hr] at hR
    obtain ⟨af, cf, v, rfl, hO⟩ := hR
    have HF2 := Hid.of (ow_base hO.out.1 HU0.out.size)
    have HB2 := Hid.of (ow_base hO.out.2 HU0.out.size)
    have HE := Hid.of hr
    clear hO hr
    obtain ⟨aB, nB, cB, rfl⟩ := Sb.shape (Ow.sb HB2.out)
    obtain ⟨rl, hrl⟩ : ∃ rl, rl = rsV x cl af cf (.slice aB nB cB) := ⟨_, rfl⟩
    have HRl := Hid.of hrl
    rw [← hrl]
    obtain ⟨nf, hnf⟩ : ∃ nf, nf = x.fs.length := ⟨_, rfl⟩
    have HRv := Hid.of (show rsV x cl af cf (.slice aB nB cB) = .agg #[.int .i64 (x.st : Int), .int .i64 x.mi, .slice af nf cf, .slice aB nB cB, .bool cl] by unfold rsV; rw [hnf])
    rw [hrl, HRv.out]
    clear hrl hnf HRl
    have HA3 := Hid.of (at_new w2 33 [.int .i64 (x.st : Int), .int .i64 x.mi, .slice af nf cf, .slice aB nB cB, .bool cl])
    have HU3 := Hid.of ((Up.refl w2).alloc (.cells [.int .i64 (x.st : Int), .int .i64 x.mi, .slice af nf cf, .slice aB nB cB, .bool cl].toArray 33))
    go_wp2_with (with_reducible show wpList _ _ _ ({ dst := _, op := Op.load 33 _, type := _, pos := _, after := _, guard := _ } :: _) _ _; refine Shut.out ?_)
    show wpList _ _ _ _ _ _
    refine wpList_load_mid rfl _ _ rfl w2.heap.size 0 rfl [.int .i64 (x.st : Int), .int .i64 x.mi, .slice af nf cf, .slice aB nB cB, .bool cl] _ HA3.out.range Tryz.underlying33 rfl (by kernel_rfl) ?_
    simp only [Act.put, List.setIfInBounds_toArray, List.set_cons_zero, List.set_cons_succ]
    go_wp2_with (with_reducible show wpList _ _ _ ({ dst := _, op := Op.store 33 (Operand.tmp 2) _, type := _, pos := _, after := _, guard := _ } :: _) _ _; refine Shut.out ?_)
    show wpList _ _ _ _ _ _
    refine wpList_store_at rfl 33 _ _ rfl (w.heap.size) (HA2.out.up HU3.out) [.int .i64 (x.st : Int), .int .i64 x.mi, .slice af nf cf, .slice aB nB cB, .bool cl] rfl rfl rfl (by kernel_rfl) (by kernel_rfl) ?_
    intro w8 hA8 hg8
    have HA8 := Hid.of hA8
    have HU8 := Hid.of ((HU2.out.trans HU3.out).by hg8 (fun g hg => by have := Option.some.inj hg; omega))
    have HF8 := Hid.of ((ow_up HF2.out HU3.out).kept hg8 (.inr (own_ne HF2.out HA2.out (by decide))))
    have HO8 := Hid.of ((ow_up HB2.out HU3.out).kept hg8 (.inr (own_ne HB2.out HA2.out (by decide))))
    clear hA8 hg8
    simp only [Act.put]
    repeat go_step
    refine bodyPost_ret (result_cell_tmp2 Tryz.results13 _ _ (w.heap.size) [.int .i64 (x.st : Int), .int .i64 x.mi, .slice af nf cf, .slice aB nB cB, .bool cl] _ _ rfl rfl rfl HA8.out.range Tryz.underlying33 rfl (by kernel_rfl)) rfl ?_
    rw [HE.out]
    exact ⟨⟨af, cf, .slice aB nB cB, congrArg (fun y => Ending.returned (.tuple #[y, .int .i64 (m : Int), .int .i64 0])) HRv.out.symm, Hid.of ⟨HF8.out, HO8.out⟩⟩, HU8.out⟩
end Go.Proofs.YtmhelmkninpaoaaGreatDoor
