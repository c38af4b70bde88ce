import Derived.Test.YtbdbpmeaiiodgaaDoorFj
import Derived.Test.YtbdbpmeaiiodgaaDoorFk
import Derived.Test.YtbdbpmeaiiodgaaDoorFl
import Derived.Lib.SlBytesConst
namespace Go.Proofs.YtbdbpmeaiiodgaaDoor
open Go.RowKit TextNum
def S1 : Sg := ⟨⟨#[97]⟩, 7, [120]⟩
theorem fr_zero {t : ByteArray} {ss : List Sg} {er : Int} (h : FR t ss er) (h1 : ¬ Lng t ss) (h2 : Fine t ss) : er = 0 := by
  rcases h with ⟨_, h⟩ | ⟨_, _, h⟩ | ⟨h, _⟩
  · exact absurd h h1
  · exact absurd h2 h
  · exact h
theorem fr_fine {t : ByteArray} {ss : List Sg} (h : FR t ss 0) : ¬ Lng t ss ∧ Fine t ss := by
  rcases h with ⟨h, _⟩ | ⟨h, _⟩ | ⟨_, h⟩
  · cases h
  · cases h
  · exact h
theorem sr_zero {m : List UInt8} {t t' : ByteArray} {ss ss' : List Sg} {er : Int} (h : SR m t' ss' er) (h1 : Spl m t ss) (h2 : m.length ≤ 65536) : er = 0 ∧ t' = t ∧ ss' = ss := by
  rcases h with ⟨_, h⟩ | ⟨_, _, h⟩ | ⟨h, _, h3⟩
  · omega
  · exact absurd ⟨t, ss, h1⟩ h
  · exact ⟨h, spl_one h3 h1⟩
theorem sr_spl {m : List UInt8} {t : ByteArray} {ss : List Sg} (h : SR m t ss 0) : Spl m t ss ∧ m.length ≤ 65536 := by
  rcases h with ⟨h, _⟩ | ⟨h, _⟩ | ⟨_, h1, h2⟩
  · cases h
  · cases h
  · exact ⟨h2, h1⟩
theorem lng_bd {t : ByteArray} {ss : List Sg} (h : ¬ Lng t ss) : t.size ≤ 140737488355328 ∧ Bds ss := by
  unfold Lng at h
  simp only [not_or, Nat.not_lt] at h
  have h2 := h.2
  unfold nlen at h2
  refine ⟨by omega, fun x hx => ?_⟩
  have h1 := sgLen_le hx
  unfold sgLen at h1
  omega
theorem name_a : nameR S1.name = 0 := by decide +kernel
theorem fine1 {t : ByteArray} (h : okT t ∧ t.size ≤ 4000) : ¬ Lng t [S1] ∧ Fine t [S1] ∧ Hsh [S1] ∧ Bds [S1] := by
  have e : nlen t [S1] = t.size + 16 := by
    unfold nlen
    rfl
  refine ⟨?_, ⟨h.1, by simp, ?_⟩, ?_, ?_⟩
  · unfold Lng
    rw [e]
    simp only [List.length_cons, List.length_nil]
    omega
  · intro x hx
    obtain rfl := List.mem_singleton.1 hx
    exact ⟨name_a, by simp [S1]⟩
  · intro x hx
    obtain rfl := List.mem_singleton.1 hx
    decide
  · intro x hx
    obtain rfl := List.mem_singleton.1 hx
    decide
theorem fmt1 (t : ByteArray) : vs (fmtN t.data.toList [S1]) = .string (t ++ ⟨#[10, 226, 128, 148, 32, 97, 32, 65, 65, 65, 65, 66, 51, 103, 61, 10]⟩) := by
  unfold vs
  refine congrArg Value.string (ba_list7 ?_)
  rw [ByteArray.data_append, Array.toList_append]
  unfold fmtN
  refine congrArg (fun z => t.data.toList ++ z) ?_
  decide +kernel
theorem sigL1 (w : World) (W : World) (hW : W = (w.alloc (.cells #[.int .u8 120] 5 (1, 2))).alloc (.cells #[.string ⟨#[97]⟩, .int .u32 7, .slice (some ⟨w.heap.size, 0, none⟩) 1 1] 42)) : SigL W (.slice (some ⟨w.heap.size + 1, 0, none⟩) 1 1) [S1] := by
  have hz : (w.alloc (.cells #[.int .u8 120] 5 (1, 2))).heap.size = w.heap.size + 1 := by simp
  have hu : Up (w.alloc (.cells #[.int .u8 120] 5 (1, 2))) W := by rw [hW]; exact (Up.refl _).alloc _
  have hc := cells_new (w.alloc (.cells #[.int .u8 120] 5 (1, 2))) 42 [.string ⟨#[97]⟩, .int .u32 7, .slice (some ⟨w.heap.size, 0, none⟩) 1 1]
  rw [hz, ← hW] at hc
  refine ⟨_, 1, rfl, Nat.le_refl _, .inr ⟨w.heap.size + 1, 0, rfl, ?_, fun i hi => ?_⟩⟩
  · rw [hW, World.alloc]
    simp
  · obtain rfl : i = 0 := by simp at hi; omega
    refine ⟨some ⟨w.heap.size, 0, none⟩, 1, 1, ?_, ?_, ?_, rfl, ⟨_, 1, rfl, Nat.le_refl _, .inr ⟨w.heap.size, 0, rfl, ?_, fun j hj => ?_⟩⟩⟩
    · exact hc 0 _ rfl
    · exact hc 1 _ rfl
    · exact hc 2 _ rfl
    · rw [hW]; simp; omega
    · obtain rfl : j = 0 := by simp [S1] at hj; omega
      refine hu.cell ?_
      rw [World.cell?_alloc_mark]
      rfl
set_option maxRecDepth 100000 in
set_option maxHeartbeats 4000000 in
theorem noteBack_walk (s : ByteArray) (hs : s.size ≤ 140737488355328) (v2 v3 : Value) (ss : List Sg) (m : List UInt8) (w : World) (h2 : SigL w v2 ss) (h3 : Sl w v3 m) (hb : Bds ss) (hh : Hsh ss) (hT : TabL w) (hW : Go.Lib.WhiteTab 3 w) :
    Calls Tryd.prog 5 #[.string s, v2, v3] w fun e w' => e = .returned (.bool true) ∧ Up w w' := by
  have HA := Hid.of (And.intro h2 (And.intro h3 (And.intro hb (And.intro hh (And.intro hT hW)))))
  clear h2 h3 hb hh hT hW
  go_enter Tryd.func5, Tryd.ntmps5
  have hcv := Go.Lib.run_convert_bytes_const (P := Tryd.prog) w 22 5 #[.int .u8 120] 1 1 Tryd.underlying22 Tryd.underlying5
  go_wp2_with fail
  clear hcv
  have h0 := sigL1 w _ rfl
  have u0 := ((Up.refl w).alloc (.cells #[.int .u8 120] 5 (1, 2))).alloc (.cells #[.string ⟨#[97]⟩, .int .u32 7, .slice (some ⟨w.heap.size, 0, none⟩) 1 1] 42)
  generalize (w.alloc (.cells #[.int .u8 120] 5 (1, 2))).alloc (.cells #[.string ⟨#[97]⟩, .int .u32 7, .slice (some ⟨w.heap.size, 0, none⟩) 1 1] 42) = w0 at *
  have H0 := Hid.of (And.intro h0 u0)
  clear h0 u0
  obtain ⟨t0, hpt⟩ := ptx_ex s
  have HF1 := Hid.of (And.intro (ptx_ok hpt) (fine1 (ptx_ok hpt)))
  have HP := fun w1 => plainText_walk s t0 hs hpt w1
  clear hpt
  refine (HP _).mono ?_
  rintro e w1 ⟨rfl, u1⟩
  have H1 := Hid.of (And.intro (H0.out.1.up u1) (H0.out.2.trans u1))
  clear u1 H0
  dsimp only
  go_wp2_with fail
  refine (Format_walk t0 (by have := HF1.out.1.2; omega) _ [S1] w1 H1.out.1 HF1.out.2.2.2.2 HF1.out.2.2.2.1 (HA.out.2.2.2.2.1.up H1.out.2) (WhiteTab_up HA.out.2.2.2.2.2 H1.out.2)).mono ?_
  rintro e w2 ⟨vm, er, rfl, hfr, hsl, _, u2⟩
  obtain rfl := fr_zero hfr HF1.out.2.1 HF1.out.2.2.1
  have H2 := Hid.of (And.intro (hsl rfl) (H1.out.2.trans u2))
  clear hfr hsl u2 H1
  dsimp only
  go_wp2_with fail
  refine (Split_walk vm _ w2 H2.out.1 (HA.out.2.2.2.2.1.up H2.out.2) (WhiteTab_up HA.out.2.2.2.2.2 H2.out.2)).mono ?_
  rintro e w3 ⟨t3, vl, s3, er, rfl, hsr, hsl, u3⟩
  have hsp := split_fmt HF1.out.2.1 HF1.out.2.2.1 HF1.out.2.2.2.1
  obtain ⟨rfl, rfl, rfl⟩ := sr_zero hsr hsp.1 hsp.2
  clear hsr hsp
  obtain ⟨a3, c3, rfl, hc3, hg3⟩ := hsl.get
  obtain ⟨b3, o3, rfl, p3, m3, d3, k1, k2, k3, rfl, k5⟩ := hg3 0 (by simp)
  have hv5 := conv_sl k5
  have HK5 := Hid.of k5
  rw [Nat.zero_mul, Nat.add_zero] at k1 k2 k3
  simp only [S1, List.getElem_cons_zero, List.length_cons, List.length_nil, Nat.zero_add] at k1 k2 k3 hv5
  simp only [List.length_cons, List.length_nil, Nat.zero_add]
  have H3 := Hid.of (And.intro (H2.out.1.up u3) (H2.out.2.trans u3))
  clear hsl u3 H2 hg3 k5 hc3
  go_wp2_with fail
  refine (num7 0 w3).mono ?_
  rintro e w3' ⟨rfl, hw⟩
  obtain rfl := hw.symm
  dsimp only
  go_wp2_with fail
  refine (num7 0 w3).mono ?_
  rintro e w3' ⟨rfl, hw⟩
  obtain rfl := hw.symm
  dsimp only
  go_wp2_with fail
  refine (HP _).mono ?_
  rintro e w4 ⟨rfl, u4⟩
  have k1' := u4.cell k1
  have k2' := u4.cell k2
  have k3' := u4.cell k3
  have hv5' : (convert 22 9 (.slice p3 1 d3)).run Tryd.prog w4 = .ok (.string ⟨#[120]⟩) w4 := conv_sl (HK5.out.up u4)
  have H4 := Hid.of (And.intro (H3.out.1.up u4) (H3.out.2.trans u4))
  clear k1 k2 k3 hv5 H3 u4 HK5
  dsimp only
  go_wp2_with fail
  clear k1' k2' k3' hv5'
  obtain ⟨sf, hsf, HSF⟩ : ∃ sf, t3 ++ ⟨#[10, 226, 128, 148, 32, 97, 32, 65, 65, 65, 65, 66, 51, 103, 61, 10]⟩ = sf ∧ Hid (vs (fmtN t3.data.toList [S1]) = .string sf) := ⟨_, rfl, Hid.of (fmt1 t3)⟩
  have hts := HF1.out.1.2
  have hsz : (⟨#[10, 226, 128, 148, 32, 97, 32, 65, 65, 65, 65, 66, 51, 103, 61, 10]⟩ : ByteArray).size = 16 := rfl
  have hsfs : sf.size ≤ 5000 := by rw [← hsf, ByteArray.size_append, hsz]; omega
  refine wp_region_held_drew (S := fun w2 => Sl w2 vm (fmtN t3.data.toList [S1]) ∧ Up w w2) (by kernel_rfl) ⟨H4.out.1.up (Up.refl w4).drew, H4.out.2.drew⟩ (fun hS => ?_)
  clear H4
  refine wpAnyH_take (i := 0) (oi := { dst := some 71, op := Go.Op.move (Go.Operand.tmp 8), type := 22, pos := "outright.go:278", after := #[], guard := none }) (v := vm) rfl (by kernel_rfl) (by kernel_rfl) (by kernel_rfl) (fun _ _ _ h => h) (Or.inl ⟨by kernel_rfl, ?_⟩) hS ?_
  · intro w5 hSw
    clear hSw hS
    go_simp
  simp only [Act.put, List.setIfInBounds_toArray, List.set_cons_zero, List.set_cons_succ]
  refine wpAnyH_take (i := 1) (oi := { dst := some 72, op := Go.Op.convert 22 9 (Go.Operand.tmp 71), type := 9, pos := "outright.go:278", after := #[{ on := 0, ground := Go.Ground.data }], guard := none }) (v := .string sf) rfl (by kernel_rfl) (by kernel_rfl) (by kernel_rfl) (fun _ _ _ h => h) (Or.inl ⟨by kernel_rfl, ?_⟩) hS ?_
  · intro w5 hSw
    have h := conv_sl hSw.1
    rw [HSF.out] at h
    clear hSw hS
    go_simp
  simp only [Act.put, List.setIfInBounds_toArray, List.set_cons_zero, List.set_cons_succ]
  refine wpAnyH_take (i := 2) (oi := { dst := some 73, op := Go.Op.move (Go.Operand.tmp 0), type := 9, pos := "outright.go:278", after := #[], guard := none }) (v := .string s) rfl (by kernel_rfl) (by kernel_rfl) (by kernel_rfl) (fun _ _ _ h => h) (Or.inl ⟨by kernel_rfl, ?_⟩) hS ?_
  · intro w5 hSw
    clear hSw hS
    go_simp
  simp only [Act.put, List.setIfInBounds_toArray, List.set_cons_zero, List.set_cons_succ]
  refine wpAnyH_ready (rs := [3]) (by kernel_rfl) (by simp) ?_
  refine AllReadyH.cons (o := { dst := some 74, op := Go.Op.call { callee := Go.Callee.value (Go.Operand.func 24), args := #[Go.Operand.tmp 73], argTypes := #[9] }, type := 9, pos := "outright.go:278", after := #[{ on := 2, ground := Go.Ground.data }], guard := none }) rfl (fun K hK => ?_) AllReadyH.nil
  rw [if_pos (by kernel_rfl)]
  go_simp
  refine (HP _).mono ?_
  rintro e w5 ⟨rfl, u5⟩
  dsimp only
  have hS2 := And.intro (hS.1.up u5) (hS.2.trans u5)
  clear hS u5
  refine hK.out _ _ hS2 (fun hS => ?_)
  clear hK hS2 K
  refine wpAnyH_take (i := 4) (oi := { dst := some 75, op := Go.Op.binOp Go.BinOp.add 9 (Go.Operand.tmp 74) (Go.Operand.const (Go.Value.string { data := #[10, 226, 128, 148, 32, 97, 32, 65, 65, 65, 65, 66, 51, 103, 61, 10] })) 9, type := 9, pos := "outright.go:278", after := #[{ on := 3, ground := Go.Ground.data }], guard := none }) (v := .string sf) rfl (by kernel_rfl) (by kernel_rfl) (by kernel_rfl) (fun _ _ _ h => h) (Or.inl ⟨by kernel_rfl, ?_⟩) hS ?_
  · intro w5 hSw
    clear hSw hS
    go_simp <;> omega
  simp only [Act.put, List.setIfInBounds_toArray, List.set_cons_zero, List.set_cons_succ]
  refine wpAnyH_take (i := 5) (oi := { dst := some 76, op := Go.Op.binOp Go.BinOp.neq 9 (Go.Operand.tmp 72) (Go.Operand.tmp 75) 9, type := 4, pos := "outright.go:278", after := #[{ on := 1, ground := Go.Ground.data }, { on := 4, ground := Go.Ground.data }], guard := none }) (v := .bool false) rfl (by kernel_rfl) (by kernel_rfl) (by kernel_rfl) (fun _ _ _ h => h) (Or.inl ⟨by kernel_rfl, ?_⟩) hS ?_
  · intro w5 hSw
    clear hSw hS
    go_simp
  simp only [Act.put, List.setIfInBounds_toArray, List.set_cons_zero, List.set_cons_succ]
  have H5 := Hid.of hS.2
  clear hS
  refine wpAnyH_done (by kernel_rfl) ?_ _
  go_wp2_with fail
  clear hsf hts hsz hsfs HSF HP HF1
  refine (Format_walk s hs v2 ss w5 (HA.out.1.up H5.out) HA.out.2.2.1 HA.out.2.2.2.1 (HA.out.2.2.2.2.1.up H5.out) (WhiteTab_up HA.out.2.2.2.2.2 H5.out)).mono ?_
  rintro e w6 ⟨vm6, er6, rfl, hfr, hsl, _, u6⟩
  have H6 := Hid.of (And.intro hfr (And.intro hsl (H5.out.trans u6)))
  clear hfr hsl u6 H5
  dsimp only
  go_wp2_with fail
  refine (num7 er6 w6).mono ?_
  rintro e w6' ⟨rfl, hw⟩
  obtain rfl := hw.symm
  dsimp only
  by_cases he6 : er6 = 0
  · subst he6
    have HFF := Hid.of (fr_fine H6.out.1)
    go_wp2_with fail
    refine (Split_walk vm6 _ w6 (H6.out.2.1 (by simp)) (HA.out.2.2.2.2.1.up H6.out.2.2) (WhiteTab_up HA.out.2.2.2.2.2 H6.out.2.2)).mono ?_
    rintro e w7 ⟨t7, vl7, s7, er7, rfl, hsr, hsl, u7⟩
    have hsp := split_fmt HFF.out.1 HFF.out.2 HA.out.2.2.2.1
    obtain ⟨rfl, rfl, rfl⟩ := sr_zero hsr hsp.1 hsp.2
    clear hsr hsp
    have H7 := Hid.of (And.intro hsl (H6.out.2.2.trans u7))
    clear hsl u7 H6
    dsimp only
    go_wp2_with fail
    refine (num7 0 w7).mono ?_
    rintro e w7' ⟨rfl, hw⟩
    obtain rfl := hw.symm
    dsimp only
    go_wp2_with fail
    have hL : s7.length ≤ 16 ∧ ∀ x, x ∈ s7 → x.bytes.length ≤ 65536 := by
      have := HFF.out.1
      unfold Lng at this
      simp only [not_or, Nat.not_lt] at this
      refine ⟨this.1, fun x hx => ?_⟩
      have h1 := sgLen_le hx
      have h2 := this.2
      unfold nlen at h2
      unfold sgLen at h1
      omega
    refine (theirs_walk v2 s7 w7 (HA.out.1.up H7.out.2) hL.1 hL.2).mono ?_
    rintro e w8 ⟨vr, rfl, hsl8, u8⟩
    have H8 := Hid.of (And.intro (H7.out.1.up u8) (And.intro hsl8 (H7.out.2.trans u8)))
    clear hsl8 u8 H7
    dsimp only
    go_wp2_with fail
    refine (alike_walk vl7 vr s7 w8 H8.out.1 H8.out.2.1 hL.1).mono ?_
    rintro e w9 ⟨rfl, u9⟩
    have H9 := Hid.of (H8.out.2.2.trans u9)
    clear u9 H8 hL HFF
    dsimp only
    go_wp2_with fail
    refine (Split_walk v3 m w9 (HA.out.2.1.up H9.out) (HA.out.2.2.2.2.1.up H9.out) (WhiteTab_up HA.out.2.2.2.2.2 H9.out)).mono ?_
    rintro e wa ⟨ta, va, sa, era, rfl, hsr, hsl, ua⟩
    have Ha := Hid.of (And.intro hsr (And.intro hsl (H9.out.trans ua)))
    clear hsr hsl ua H9
    dsimp only
    go_wp2_with fail
    refine (num7 era wa).mono ?_
    rintro e wa' ⟨rfl, hw⟩
    obtain rfl := hw.symm
    dsimp only
    by_cases hea : era = 0
    · subst hea
      have hsp := sr_spl Ha.out.1
      have hsq := spl_fmt hsp.1 hsp.2
      have HQ := Hid.of hsq
      have HFN := Hid.of (lng_bd hsq.1)
      clear hsp hsq
      go_wp2_with fail
      refine (Format_walk ta HFN.out.1 va sa wa Ha.out.2.1 HFN.out.2 HQ.out.2.2.2 (HA.out.2.2.2.2.1.up Ha.out.2.2) (WhiteTab_up HA.out.2.2.2.2.2 Ha.out.2.2)).mono ?_
      rintro e wb ⟨vmb, erb, rfl, hfr, hsl, _, ub⟩
      obtain rfl := fr_zero hfr HQ.out.1 HQ.out.2.1
      have hsl := hsl rfl
      rw [HQ.out.2.2.1] at hsl
      have hq1 := conv_sl hsl
      have hq2 := conv_sl (HA.out.2.1.up (Ha.out.2.2.trans ub))
      rw [show vs m = .string ⟨m.toArray⟩ from rfl] at hq1 hq2
      generalize (⟨m.toArray⟩ : ByteArray) = sm at hq1 hq2
      have Hb := Hid.of (Ha.out.2.2.trans ub)
      clear hfr hsl ub Ha HQ HFN
      dsimp only
      go_wp2_with fail
      refine (num7 0 wb).mono ?_
      rintro e wb' ⟨rfl, hw⟩
      obtain rfl := hw.symm
      dsimp only
      go_wp2
      go_ret
      exact ⟨rfl, Hb.out⟩
    · have hea' : (era == 0) = false := by simpa using hea
      replace Ha := Hid.of Ha.out.2.2
      clear hea
      go_wp2
      go_ret
      exact ⟨rfl, Ha.out⟩
  · have he6' : (er6 == 0) = false := by simpa using he6
    replace H6 := Hid.of H6.out.2.2
    clear he6
    go_wp2_with fail
    refine (Split_walk v3 m w6 (HA.out.2.1.up H6.out) (HA.out.2.2.2.2.1.up H6.out) (WhiteTab_up HA.out.2.2.2.2.2 H6.out)).mono ?_
    rintro e wa ⟨ta, va, sa, era, rfl, hsr, hsl, ua⟩
    have Ha := Hid.of (And.intro hsr (And.intro hsl (H6.out.trans ua)))
    clear hsr hsl ua H6
    dsimp only
    go_wp2_with fail
    refine (num7 era wa).mono ?_
    rintro e wa' ⟨rfl, hw⟩
    obtain rfl := hw.symm
    dsimp only
    by_cases hea : era = 0
    · subst hea
      have hsp := sr_spl Ha.out.1
      have hsq := spl_fmt hsp.1 hsp.2
      have HQ := Hid.of hsq
      have HFN := Hid.of (lng_bd hsq.1)
      clear hsp hsq
      go_wp2_with fail
      refine (Format_walk ta HFN.out.1 va sa wa Ha.out.2.1 HFN.out.2 HQ.out.2.2.2 (HA.out.2.2.2.2.1.up Ha.out.2.2) (WhiteTab_up HA.out.2.2.2.2.2 Ha.out.2.2)).mono ?_
      rintro e wb ⟨vmb, erb, rfl, hfr, hsl, _, ub⟩
      obtain rfl := fr_zero hfr HQ.out.1 HQ.out.2.1
      have hsl := hsl rfl
      rw [HQ.out.2.2.1] at hsl
      have hq1 := conv_sl hsl
      have hq2 := conv_sl (HA.out.2.1.up (Ha.out.2.2.trans ub))
      rw [show vs m = .string ⟨m.toArray⟩ from rfl] at hq1 hq2
      generalize (⟨m.toArray⟩ : ByteArray) = sm at hq1 hq2
      have Hb := Hid.of (Ha.out.2.2.trans ub)
      clear hfr hsl ub Ha HQ HFN
      dsimp only
      go_wp2_with fail
      refine (num7 0 wb).mono ?_
      rintro e wb' ⟨rfl, hw⟩
      obtain rfl := hw.symm
      dsimp only
      go_wp2
      go_ret
      exact ⟨rfl, Hb.out⟩
    · have hea' : (era == 0) = false := by simpa using hea
      replace Ha := Hid.of Ha.out.2.2
      clear hea
      go_wp2
      go_ret
      exact ⟨rfl, Ha.out⟩
end Go.Proofs.YtbdbpmeaiiodgaaDoor
