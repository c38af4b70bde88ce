import Derived.Test.YtngagdfemdamdaaDoorDm
namespace Go.Proofs.YtngagdfemdamdaaDoor
open Go.RowKit Go.Shelf TextNum ModNum
theorem Tryd.infoNact : (Tryd.prog.info? 95).map (fun i => (i.zero, i.size, i.bytes)) = some (some (.agg #[.nilFunc]), 1, 8) := by kernel_rfl
set_option maxRecDepth 100000 in
set_option maxHeartbeats 2000000 in
theorem change_walk (D M F b1 b2 room : Nat) (acts : Int) (vL : Value) (w : World) (hA : At w D 82 (d0c room M vL (.slice none 0 0) acts)) (hM : OM w M 0 (.map [])) (h1 : At w b1 66 [.pointer (some ⟨F, 0, none⟩)]) (h2 : At w b2 9 [.string ⟨#[102]⟩]) :
    Calls Tryd.prog 31 #[.pointer (some ⟨D, 0, none⟩), .func (.func 32) #[] #[.pointer (some ⟨b1, 0, none⟩), .pointer (some ⟨b2, 0, none⟩)]] w fun e w' => e = .returned (.tuple #[]) ∧ ∃ vC, At w' D 82 (d0c room M vL vC acts) ∧ OM w' M 1 (D1 F) ∧ Fr (fun k => k = D ∨ k = M) w w' := by
  obtain ⟨i0, hi, hz0, hz1, hz2⟩ := info_parts Tryd.infoNact
  have HC := Hid.of (Create11_walk M F b1 b2 w hM h1 h2)
  have HA := Hid.of hA
  have HM := Hid.of hM
  have c3 := hA.cell (i := 3) rfl
  clear hA hM h1 h2
  go_enter Tryd.func31, Tryd.ntmps31
  go_wp2_with fail
  refine HC.out.mono ?_
  rintro e w1 ⟨rfl, m1, g1⟩
  have HM1 := Hid.of m1
  have HFr1 := Hid.of ((Fr.refl (fun k => k = D ∨ k = M) w).by g1 (fun g hg => .inl (.inr (Option.some.inj hg).symm)))
  have HA1 := Hid.of (HA.out.by g1 (fun e => map_ne HM.out HA.out (Option.some.inj e)))
  have c5 := HA1.out.cell (i := 5) rfl
  clear m1 g1 HC HA HM c3
  dsimp only
  go_wp2_with (with_reducible show wpList _ _ _ ({ dst := _, op := Op.call { callee := Callee.builtin Builtin.append, args := _, argTypes := _ }, type := _, pos := _, after := _, guard := _ } :: _) _ _; refine Shut.out ?_)
  show wpList _ _ _ _ _ _
  refine wpList_append_frs rfl _ _ 79 rfl w1.heap.size 95 i0 (.agg #[.nilFunc]) 8 Tryd.underlying79 hi hz0 hz1 hz2 rfl _ 0 [] rfl (World.ownsRow_nil _ _ _ _) ⟨w1.heap.size, 0, none⟩ 1 1 [.func (.func 32) #[] #[.pointer (some ⟨b1, 0, none⟩), .pointer (some ⟨b2, 0, none⟩)]] rfl rfl ?_ ?_ (by decide) (by decide) (by simp) ?_
  · intro j u hu
    rw [Addr.add_lit]
    exact At.cell (at_new w1 95 [.func (.func 32) #[] #[.pointer (some ⟨b1, 0, none⟩), .pointer (some ⟨b2, 0, none⟩)]]) (i := 0 + j) (by rw [Nat.zero_add]; exact hu)
  · intro u hu
    obtain rfl := List.mem_singleton.1 hu
    rfl
  intro v2 w2 o2 g2 f2
  have hU2 : Up w1 w2 := up_grownBy ((Up.refl w1).alloc _) g2 (fun g hg => by cases hg)
  obtain ⟨a2, n2, c2, hv2⟩ : ∃ a n c, v2 = .slice a n c := by
    rcases o2.2 with ⟨h, _⟩ | ⟨g, cap, cur, h, _⟩
    · exact ⟨_, _, _, h⟩
    · exact ⟨_, _, _, h⟩
  subst hv2
  have HFr2 := Hid.of (HFr1.out.up hU2)
  have HA2 := Hid.of (HA1.out.up hU2)
  have HM2 := Hid.of (HM1.out.up hU2)
  have e5 := HA2.out.cell (i := 5) rfl
  have t5 := HA2.out.thaw 5
  have HA3 := Hid.of (HA2.out.set 5 (.slice a2 n2 c2))
  have HG3 := Hid.of (grown_at w2 D 5 (.slice a2 n2 c2))
  have HMD := Hid.of (map_ne HM2.out HA2.out)
  clear o2 g2 f2 hU2 c5 HFr1 HA1 HM1
  simp only [Act.put, List.setIfInBounds_toArray, List.set_cons_zero, List.set_cons_succ]
  go_wp2
  go_end0
  exact ⟨rfl, _, HA3.out, World.ownsMap.kept HM2.out HG3.out (fun e => HMD.out (Option.some.inj e)), HFr2.out.by HG3.out (fun g hg => .inl (.inl (Option.some.inj hg).symm))⟩
set_option maxRecDepth 100000 in
set_option maxHeartbeats 2000000 in
theorem Create1_walk (D M b1 b2 room : Nat) (acts : Int) (vL : Value) (w : World) (hA : At w D 82 (d0c room M vL (.slice none 0 0) acts)) (hM : OM w M 0 (.map [])) (h1 : At w b1 24 [.pointer (some ⟨D, 0, none⟩)]) (h2 : At w b2 9 [.string ⟨#[102]⟩]) :
    Calls Tryd.prog 29 #[.pointer (some ⟨b1, 0, none⟩), .pointer (some ⟨b2, 0, none⟩)] w fun e w' => e = .returned (.tuple #[]) ∧ ∃ F vC, At w' D 82 (d0c room M vL vC acts) ∧ OM w' M 1 (D1 F) ∧ At w' F 69 [.slice none 0 0, .slice none 0 0, .slice none 0 0] ∧ w.heap.size ≤ F ∧ Fr (fun k => k = D ∨ k = M) w w' := by
  have HR := Hid.of (release_none D M 0 _ _ _ _ _ _ _ _ _ _ _ w hA hM)
  have HA := Hid.of hA
  have HM := Hid.of hM
  have HB1 := Hid.of h1
  have HB2 := Hid.of h2
  have c1 := h1.cell (i := 0) rfl
  have c2 := h2.cell (i := 0) rfl
  have HF := Hid.of ((at_new w 69 [.slice none 0 0, .slice none 0 0, .slice none 0 0]).up ((Up.refl _).alloc (.cells [.pointer (some ⟨w.heap.size, 0, none⟩)].toArray 66)))
  have hP := at_new (w.alloc (.cells [.slice none 0 0, .slice none 0 0, .slice none 0 0].toArray 69)) 66 [.pointer (some ⟨w.heap.size, 0, none⟩)]
  rw [alloc_size] at hP
  have HP := Hid.of hP
  have HU := Hid.of (((Up.refl w).alloc (.cells [.slice none 0 0, .slice none 0 0, .slice none 0 0].toArray 69)).alloc (.cells [.pointer (some ⟨w.heap.size, 0, none⟩)].toArray 66))
  have hc1 := HU.out.cell c1
  clear hA hM h1 h2 hP
  go_enter Tryd.func29, Tryd.ntmps29
  go_wp2_with fail
  refine HR.out.mono ?_
  rintro e w1 ⟨rfl, rfl⟩
  dsimp only
  clear HR
  go_wp2_with fail
  generalize (w1.alloc (.cells [.slice none 0 0, .slice none 0 0, .slice none 0 0].toArray 69)).alloc (.cells [.pointer (some ⟨w1.heap.size, 0, none⟩)].toArray 66) = W2 at *
  refine (change_walk D M w1.heap.size (w1.heap.size + 1) b2 room acts vL W2 (HA.out.up HU.out) (HM.out.up HU.out) HP.out (HB2.out.up HU.out)).mono ?_
  rintro e w3 ⟨rfl, vC, a3, m3, f3⟩
  have HR3 := Hid.of (And.intro a3 (And.intro m3 (And.intro (f3.at HF.out (fun hk => by
    rcases hk with hk | hk
    · exact HF.out.ne (HA.out.up HU.out) (by decide) hk
    · exact map_ne (HM.out.up HU.out) HF.out hk.symm)) (((Fr.refl (fun k => k = D ∨ k = M) w1).up HU.out).trans f3 (fun g hg => .inl hg)))))
  clear a3 m3 f3 c1 c2 hc1
  dsimp only
  go_wp2
  go_end0
  exact ⟨rfl, _, _, HR3.out.1, HR3.out.2.1, HR3.out.2.2.1, Nat.le_refl _, HR3.out.2.2.2⟩
set_option maxRecDepth 100000 in
theorem nameErrorF_walk (w : World) (hG : ML w) : Calls Tryd.prog 28 #[.string ⟨#[102]⟩] w fun e w' => e = .returned (.int .i64 0) ∧ Up w w' := by
  have HN := Hid.of (isName_walk ⟨#[102]⟩ w hG)
  have e1 : isNm (⟨#[102]⟩ : ByteArray).data.toList = true := by decide +kernel
  rw [e1] at HN
  clear e1 hG
  go_enter Tryd.func28, Tryd.ntmps28
  go_wp2_with fail
  refine (HN.out).mono ?_
  rintro e w1 ⟨rfl, u1⟩
  have H1 := Hid.of (u1)
  have Hu1 := Hid.of u1
  clear u1
  dsimp only
  go_wp2
  go_ret
  exact ⟨rfl, H1.out⟩
set_option maxRecDepth 100000 in
set_option maxHeartbeats 2000000 in
theorem Create_walk (B D M room : Nat) (vL : Value) (w : World) (hG : ML w) (hB : B ≤ w.heap.size) (hl : 0 < B ∧ B ≤ D ∧ B ≤ M) (hr : room ≤ 4000) (hA : At w D 82 (d0c room M vL (.slice none 0 0) 0)) (hM : OM w M 0 (.map [])) :
    Calls Tryd.prog 9 #[.pointer (some ⟨D, 0, none⟩), .string ⟨#[102]⟩] w fun e w' => e = .returned (.int .i64 0) ∧ ∃ F s, Inv w' B D M F 0 s ∧ s.nb = [] ∧ s.vn = .slice none 0 0 ∧ s.vl = .slice none 0 0 ∧ s.lo = [] ∧ s.room = room ∧ Fr (fun k => k = D ∨ k = M) w w' := by
  have HA := Hid.of hA
  have HM := Hid.of hM
  have HG := Hid.of hG
  have HB1 := Hid.of ((at_new w 24 [.pointer (some ⟨D, 0, none⟩)]).up ((Up.refl _).alloc (.cells [.string ⟨#[102]⟩].toArray 9)))
  have hb2 := at_new (w.alloc (.cells [.pointer (some ⟨D, 0, none⟩)].toArray 24)) 9 [.string ⟨#[102]⟩]
  rw [alloc_size] at hb2
  have HB2 := Hid.of hb2
  have HU := Hid.of (((Up.refl w).alloc (.cells [.pointer (some ⟨D, 0, none⟩)].toArray 24)).alloc (.cells [.string ⟨#[102]⟩].toArray 9))
  clear hA hM hG hb2
  have HPost : ∀ w3, Up w w3 → At w3 w.heap.size 24 [.pointer (some ⟨D, 0, none⟩)] → At w3 (w.heap.size + 1) 9 [.string ⟨#[102]⟩] →
      Calls Tryd.prog 27 #[.pointer (some ⟨D, 0, none⟩), .int .i64 0, .func (.func 29) #[] #[.pointer (some ⟨w.heap.size, 0, none⟩), .pointer (some ⟨w.heap.size + 1, 0, none⟩)]] w3 fun e w9 => e = .returned (.int .i64 0) ∧
        ∃ F s, Inv w9 B D M F 0 s ∧ s.nb = [] ∧ s.vn = .slice none 0 0 ∧ s.vl = .slice none 0 0 ∧ s.lo = [] ∧ s.room = room ∧ Fr (fun k => k = D ∨ k = M) w w9 := fun w3 u3 b1 b2 => by
    refine act_Create1 D room 0 0 0 0 (.map (some M)) vL (.slice none 0 0) (.slice none 0 0) (.int .i64 0) _ _ w3 (HA.out.up u3) (by omega) (by omega) (fun w9 => ∃ F s, Inv w9 B D M F 0 s ∧ s.nb = [] ∧ s.vn = .slice none 0 0 ∧ s.vl = .slice none 0 0 ∧ s.lo = [] ∧ s.room = room ∧ Fr (fun k => k = D ∨ k = M) w w9) (fun w4 hd g4 => ?_)
    have dA := HA.out.up u3
    have m4 : OM w4 M 0 (.map []) := World.ownsMap.kept (HM.out.up u3) g4 (fun e => map_ne (HM.out.up u3) dA (Option.some.inj e))
    have fr4 : Fr (fun k => k = D ∨ k = M) w w4 := ((Fr.refl (fun k => k = D ∨ k = M) w).up u3).by g4 (fun g hg => .inl (.inl (Option.some.inj hg).symm))
    refine (Create1_walk D M w.heap.size (w.heap.size + 1) room (0 + 1) vL w4 hd m4 (b1.by g4 (fun e => dA.ne b1 (by decide) (Option.some.inj e))) (b2.by g4 (fun e => dA.ne b2 (by decide) (Option.some.inj e)))).mono ?_
    rintro e w9 ⟨rfl, F, vC, q1, q2, q3, q4, q5⟩
    have fr9 : Fr (fun k => k = D ∨ k = M) w w9 := fr4.trans q5 (fun g hg => .inl hg)
    refine ⟨rfl, F, ⟨.slice none 0 0, .slice none 0 0, .slice none 0 0, vL, vC, [], [], [], 0, 0 + 1, room⟩, ⟨?_, ⟨hl.1, hl.2.1, hl.2.2, ?_⟩, Nat.le_trans hB fr9.size, q1, q2, q3, World.ownsRow_nil _ _ _ _, World.ownsRow_nil _ _ _ _, (fun g hg => by cases hg), World.ownsRow_nil _ _ _ _, (fun l hl => by cases hl), hr, by simp, by simp, by simp⟩, rfl, rfl, rfl, rfl, rfl, fr9⟩
    · obtain ⟨m, hm⟩ := HG.out
      refine ⟨m, ?_⟩
      rw [← hm]
      exact World.cell?_of_block (fr9.block 0 (Nat.lt_of_lt_of_le hl.1 hB) (fun hk => by
        rcases hk with hk | hk <;> omega))
    · have := fr4.size
      omega
  have HPo := Hid.of HPost
  clear HPost HA HM
  go_enter Tryd.func9, Tryd.ntmps9
  go_wp2
  generalize (w.alloc (.cells [.pointer (some ⟨D, 0, none⟩)].toArray 24)).alloc (.cells [.string ⟨#[102]⟩].toArray 9) = W2 at *
  have HNe := Hid.of (nameErrorF_walk W2.drew (HG.out.up HU.out.drew))
  have c1 := HB1.out.cell (i := 0) rfl
  have c2 := HB2.out.cell (i := 0) rfl
  apply wp_som (fun _ _ u => ∃ F s, Inv u B D M F 0 s ∧ s.nb = [] ∧ s.vn = .slice none 0 0 ∧ s.vl = .slice none 0 0 ∧ s.lo = [] ∧ s.room = room ∧ Fr (fun k => k = D ∨ k = M) w u)
  case h =>
    go_region_with (first | (go_at_call 28; refine HNe.out.mono ?_; rintro e w3 ⟨rfl, u3⟩; have hu3 := (Up.refl W2).drew.trans u3; have c1b := (HB1.out.up hu3).cell (i := 0) rfl; have c2b := (HB2.out.up hu3).cell (i := 0) rfl; have HX3 := Hid.of hu3; clear u3 hu3) | (go_at_call 27; refine (HPo.out _ (HU.out.trans HX3.out) (HB1.out.up HX3.out) (HB2.out.up HX3.out)).mono ?_; rintro e w9 ⟨rfl, hP⟩; have HP9 := Hid.of hP; clear hP; obtain ⟨x0, hx0⟩ : ∃ x : Option Addr, x = none := ⟨_, rfl⟩; obtain ⟨n0, hn0⟩ : ∃ n : Nat, n = 0 := ⟨_, rfl⟩))
    all_goals exact ⟨x0, n0, _, HP9.out, rfl, rfl⟩
  intro _ _ w9 hR
  have HR := Hid.of hR
  clear hR
  go_wp2
  go_ret
  exact ⟨rfl, HR.out⟩
end Go.Proofs.YtngagdfemdamdaaDoor
