import Derived.Test.YtdebcddbjkejmaaDoorNp
import Derived.Test.YtdebcddbjkejmaaDoorBd
import Derived.Test.YtdebcddbjkejmaaDoorBf
import Derived.Test.YtdebcddbjkejmaaDoorQn
import Derived.Test.YtdebcddbjkejmaaDoorQq
namespace Go.Proofs.YtdebcddbjkejmaaDoor
open Go.RowKit TextNum

structure GA (w : World) : Prop where
  d : TabD w
  l : TabL w
  n : GN w
theorem GA.up {w w' : World} (h : GA w) (k : Up w w') : GA w' := ⟨h.d.up k, h.l.up k, h.n.up k⟩

theorem b64R_zero {l : List UInt8} (h : (b64R l).2 = 0) : b64E (b64R l).1 = l ∧ (b64R l).1.length ≤ 1048576 := by
  by_cases h1 : 1048576 < l.length
  · rw [b64R_long h1] at h; cases h
  · cases hd : b64D l with
    | none => rw [b64R_none h1 hd] at h; cases h
    | some x =>
      rw [b64R_some h1 hd]
      have := b64_once l x hd
      refine ⟨this, ?_⟩
      have hl := congrArg List.length this
      rw [b64E_length] at hl
      show x.length ≤ _
      omega
theorem hexR_zero {l : List UInt8} (h : (hexR l).2 = 0) : hexE (hexR l).1 = l ∧ (hexR l).1.length ≤ 1048576 := by
  by_cases h1 : 1048576 < l.length
  · rw [hexR_long h1] at h; cases h
  · cases hd : hexD l with
    | none => rw [hexR_none h1 hd] at h; cases h
    | some x =>
      rw [hexR_some h1 hd]
      have := hex_once l x hd
      refine ⟨this, ?_⟩
      have hl := congrArg List.length this
      rw [hexE_length] at hl
      show x.length ≤ _
      omega
theorem quoR_zero {l : List UInt8} (h : (quoR l).2 = 0) : quo (quoR l).1 = l ∧ (quoR l).1.length ≤ 1048576 := by
  by_cases h1 : 1048576 < l.length
  · rw [quoR_long h1] at h; cases h
  · cases hd : unq l with
    | none => rw [quoR_none h1 hd] at h; cases h
    | some x =>
      rw [quoR_some h1 hd]
      have := quote_once l x hd
      refine ⟨this, ?_⟩
      have hl := congrArg List.length this
      have h2 := qs_length x
      simp [quo] at hl
      show x.length ≤ _
      omega
theorem prs_rg (l : List UInt8) (max : Int) : -9223372036854775808 ≤ (prs l max).1 ∧ (prs l max).1 ≤ 9223372036854775807 := by
  unfold prs
  split
  · simp
  · split
    · split
      · rename_i h; show -9223372036854775808 ≤ (nv l : Int) ∧ (nv l : Int) ≤ 9223372036854775807; omega
      · simp
    · simp
theorem vs_data (s : ByteArray) : vs s.data.toList = .string s := by unfold vs; rw [Go.Lib.mk_data]
theorem once1 : b64R [47, 119, 61, 61] = ([255], 0) := by decide
theorem once2 : hexR [102, 102] = ([255], 0) := by decide
theorem once3 : quoR [34, 92, 120, 102, 102, 34] = ([255], 0) := by decide
theorem once4 : prs [50, 53, 53] 255 = (255, 0) := by decide
theorem one_cell {w : World} {B : Nat} {v : Value} (h : Own w B v [255]) : ∃ b off c, v = .slice (some ⟨b, off, none⟩) 1 c ∧ w.cell? ⟨b, off, none⟩ = some (.int .u8 255) := by
  obtain ⟨a, c, e, _, h⟩ := h.sl
  rcases h with h | ⟨b, off, rfl, _, hc⟩
  · cases h
  · exact ⟨b, off, c, e, hc 0 (by decide)⟩

set_option maxRecDepth 100000 in
set_option maxHeartbeats 1000000 in
theorem once_walk (s : ByteArray) (w : World) (hG : GA w) : Calls Tryd.prog 8 #[.string s] w fun e w' => e = .returned (.bool true) ∧ Up w w' := by
  have HG := Hid.of hG
  clear hG
  go_enter Tryd.func8, Tryd.ntmps8
  go_wp2_with fail
  refine (DecodeBase64_walk ⟨#[47, 119, 61, 61]⟩ w HG.out.l).mono ?_
  rintro e w1 ⟨va, rfl, oa, ua⟩
  rw [show (⟨#[47, 119, 61, 61]⟩ : ByteArray).data.toList = [47, 119, 61, 61] from rfl, once1] at oa ⊢
  dsimp only at oa ⊢
  have HA := Hid.of (And.intro oa ua)
  clear oa ua
  go_wp2_with fail
  refine (DecodeHex_walk ⟨#[102, 102]⟩ w1 (HG.out.d.up HA.out.2)).mono ?_
  rintro e w2 ⟨vx, rfl, ox, ux⟩
  rw [show (⟨#[102, 102]⟩ : ByteArray).data.toList = [102, 102] from rfl, once2] at ox ⊢
  dsimp only at ox ⊢
  have HX := Hid.of (And.intro (Own.below HA.out.1 ux) (And.intro ox (HA.out.2.trans ux)))
  clear ox ux HA
  go_wp2_with fail
  refine (Unquote_walk ⟨#[34, 92, 120, 102, 102, 34]⟩ w2 (HG.out.d.up HX.out.2.2)).mono ?_
  rintro e w3 ⟨vy, rfl, oy, uy⟩
  rw [show (⟨#[34, 92, 120, 102, 102, 34]⟩ : ByteArray).data.toList = [34, 92, 120, 102, 102, 34] from rfl, once3] at oy ⊢
  dsimp only at oy ⊢
  have HY := Hid.of (And.intro (Own.below HX.out.1 uy) (And.intro (Own.below HX.out.2.1 uy) (And.intro oy (HX.out.2.2.trans uy))))
  clear oy uy HX
  go_wp2_with fail
  refine (ParseNumber_walk ⟨#[50, 53, 53]⟩ 255 w3 (HG.out.n.up HY.out.2.2.2)).mono ?_
  rintro e w4 ⟨rfl, uz⟩
  rw [show (⟨#[50, 53, 53]⟩ : ByteArray).data.toList = [50, 53, 53] from rfl, once4]
  dsimp only
  have HZ := Hid.of (HY.out.2.2.2.trans uz)
  have cx := conv_sl (Own.sl (Own.below HY.out.2.1 uz))
  have cy := conv_sl (Own.sl (Own.below HY.out.2.2.1 uz))
  obtain ⟨b, off, c, rfl, hc⟩ := one_cell (Own.below HY.out.1 uz)
  have ca := conv_sl (Own.sl (Own.below HY.out.1 uz))
  clear uz HY
  go_wp2_with fail
  clear hc cx cy ca
  refine (DecodeBase64_walk s _ (HG.out.l.up HZ.out)).mono ?_
  rintro e w5 ⟨va, rfl, oa, ua⟩
  have H := Hid.of (And.intro oa (HZ.out.trans ua))
  clear oa ua HZ
  by_cases hz : (b64R s.data.toList).2 = 0
  · rw [hz]
    have HB := Hid.of (b64R_zero hz)
    clear hz
    dsimp only
    go_wp2_with fail
    refine (EncodeBase64_walk va _ w5 (HG.out.l.up H.out.2) (Own.sl H.out.1) (Nat.le_trans HB.out.2 (by decide))).mono ?_
    rintro e w6 ⟨rfl, u6⟩
    rw [HB.out.1, vs_data]
    have HZ := Hid.of (H.out.2.trans u6)
    clear u6 H HB
    dsimp only
    go_wp2_with fail
    refine (DecodeHex_walk s _ (HG.out.d.up HZ.out)).mono ?_
    rintro e w5 ⟨va, rfl, oa, ua⟩
    have H := Hid.of (And.intro oa (HZ.out.trans ua))
    clear oa ua HZ
    by_cases hz : (hexR s.data.toList).2 = 0
    · rw [hz]
      have HB := Hid.of (hexR_zero hz)
      clear hz
      dsimp only
      go_wp2_with fail
      refine (EncodeHex_walk va _ w5 (HG.out.d.up H.out.2) (Own.sl H.out.1) (Nat.le_trans HB.out.2 (by decide))).mono ?_
      rintro e w6 ⟨rfl, u6⟩
      rw [HB.out.1, vs_data]
      have HZ := Hid.of (H.out.2.trans u6)
      clear u6 H HB
      dsimp only
      go_wp2_with fail
      refine (Unquote_walk s _ (HG.out.d.up HZ.out)).mono ?_
      rintro e w5 ⟨va, rfl, oa, ua⟩
      have H := Hid.of (And.intro oa (HZ.out.trans ua))
      clear oa ua HZ
      by_cases hz : (quoR s.data.toList).2 = 0
      · rw [hz]
        have HB := Hid.of (quoR_zero hz)
        clear hz
        dsimp only
        go_wp2_with fail
        refine (Quote_walk va _ w5 (HG.out.d.up H.out.2) (Own.sl H.out.1) (Nat.le_trans HB.out.2 (by decide))).mono ?_
        rintro e w6 ⟨rfl, u6⟩
        rw [HB.out.1, vs_data]
        have HZ := Hid.of (H.out.2.trans u6)
        clear u6 H HB
        dsimp only
        go_wp2_with fail
        refine (ParseNumber_walk s 9223372036854775807 _ (HG.out.n.up HZ.out)).mono ?_
        rintro e w5 ⟨rfl, ua⟩
        have H := Hid.of (HZ.out.trans ua)
        clear ua HZ
        by_cases hz : (prs s.data.toList 9223372036854775807).2 = 0
        · rw [hz]
          have HB := Hid.of (And.intro (num_once s.data.toList hz) (prs_rg s.data.toList 9223372036854775807))
          generalize (prs s.data.toList 9223372036854775807).1 = z at *
          clear hz
          dsimp only
          go_wp2_with fail
          refine (FormatNumber_walk z HB.out.2.1 HB.out.2.2 w5 (HG.out.n.up H.out)).mono ?_
          rintro e w6 ⟨rfl, u6⟩
          rw [HB.out.1, vs_data]
          have HZ := Hid.of (H.out.trans u6)
          clear u6 H HB
          dsimp only
          go_wp2
          go_ret
          exact ⟨by simp, HZ.out⟩
        · have dz : ((prs s.data.toList 9223372036854775807).2 != 0) = true := by simpa using hz
          generalize (prs s.data.toList 9223372036854775807).2 = q at *
          generalize (prs s.data.toList 9223372036854775807).1 = z at *
          clear hz
          dsimp only
          go_wp2
          go_ret
          exact ⟨by simp, H.out⟩
      · have dz : ((quoR s.data.toList).2 == 0) = false := by simpa using hz
        have HZ := Hid.of H.out.2
        generalize (quoR s.data.toList).2 = q2 at *
        clear H hz
        dsimp only
        go_wp2_with fail
        refine (ParseNumber_walk s 9223372036854775807 _ (HG.out.n.up HZ.out)).mono ?_
        rintro e w5 ⟨rfl, ua⟩
        have H := Hid.of (HZ.out.trans ua)
        clear ua HZ
        by_cases hz : (prs s.data.toList 9223372036854775807).2 = 0
        · rw [hz]
          have HB := Hid.of (And.intro (num_once s.data.toList hz) (prs_rg s.data.toList 9223372036854775807))
          generalize (prs s.data.toList 9223372036854775807).1 = z at *
          clear hz
          dsimp only
          go_wp2_with fail
          refine (FormatNumber_walk z HB.out.2.1 HB.out.2.2 w5 (HG.out.n.up H.out)).mono ?_
          rintro e w6 ⟨rfl, u6⟩
          rw [HB.out.1, vs_data]
          have HZ := Hid.of (H.out.trans u6)
          clear u6 H HB
          dsimp only
          go_wp2
          go_ret
          exact ⟨by simp, HZ.out⟩
        · have dz : ((prs s.data.toList 9223372036854775807).2 != 0) = true := by simpa using hz
          generalize (prs s.data.toList 9223372036854775807).2 = q at *
          generalize (prs s.data.toList 9223372036854775807).1 = z at *
          clear hz
          dsimp only
          go_wp2
          go_ret
          exact ⟨by simp, H.out⟩
    · have dz : ((hexR s.data.toList).2 == 0) = false := by simpa using hz
      have HZ := Hid.of H.out.2
      generalize (hexR s.data.toList).2 = q1 at *
      clear H hz
      dsimp only
      go_wp2_with fail
      refine (Unquote_walk s _ (HG.out.d.up HZ.out)).mono ?_
      rintro e w5 ⟨va, rfl, oa, ua⟩
      have H := Hid.of (And.intro oa (HZ.out.trans ua))
      clear oa ua HZ
      by_cases hz : (quoR s.data.toList).2 = 0
      · rw [hz]
        have HB := Hid.of (quoR_zero hz)
        clear hz
        dsimp only
        go_wp2_with fail
        refine (Quote_walk va _ w5 (HG.out.d.up H.out.2) (Own.sl H.out.1) (Nat.le_trans HB.out.2 (by decide))).mono ?_
        rintro e w6 ⟨rfl, u6⟩
        rw [HB.out.1, vs_data]
        have HZ := Hid.of (H.out.2.trans u6)
        clear u6 H HB
        dsimp only
        go_wp2_with fail
        refine (ParseNumber_walk s 9223372036854775807 _ (HG.out.n.up HZ.out)).mono ?_
        rintro e w5 ⟨rfl, ua⟩
        have H := Hid.of (HZ.out.trans ua)
        clear ua HZ
        by_cases hz : (prs s.data.toList 9223372036854775807).2 = 0
        · rw [hz]
          have HB := Hid.of (And.intro (num_once s.data.toList hz) (prs_rg s.data.toList 9223372036854775807))
          generalize (prs s.data.toList 9223372036854775807).1 = z at *
          clear hz
          dsimp only
          go_wp2_with fail
          refine (FormatNumber_walk z HB.out.2.1 HB.out.2.2 w5 (HG.out.n.up H.out)).mono ?_
          rintro e w6 ⟨rfl, u6⟩
          rw [HB.out.1, vs_data]
          have HZ := Hid.of (H.out.trans u6)
          clear u6 H HB
          dsimp only
          go_wp2
          go_ret
          exact ⟨by simp, HZ.out⟩
        · have dz : ((prs s.data.toList 9223372036854775807).2 != 0) = true := by simpa using hz
          generalize (prs s.data.toList 9223372036854775807).2 = q at *
          generalize (prs s.data.toList 9223372036854775807).1 = z at *
          clear hz
          dsimp only
          go_wp2
          go_ret
          exact ⟨by simp, H.out⟩
      · have dz : ((quoR s.data.toList).2 == 0) = false := by simpa using hz
        have HZ := Hid.of H.out.2
        generalize (quoR s.data.toList).2 = q2 at *
        clear H hz
        dsimp only
        go_wp2_with fail
        refine (ParseNumber_walk s 9223372036854775807 _ (HG.out.n.up HZ.out)).mono ?_
        rintro e w5 ⟨rfl, ua⟩
        have H := Hid.of (HZ.out.trans ua)
        clear ua HZ
        by_cases hz : (prs s.data.toList 9223372036854775807).2 = 0
        · rw [hz]
          have HB := Hid.of (And.intro (num_once s.data.toList hz) (prs_rg s.data.toList 9223372036854775807))
          generalize (prs s.data.toList 9223372036854775807).1 = z at *
          clear hz
          dsimp only
          go_wp2_with fail
          refine (FormatNumber_walk z HB.out.2.1 HB.out.2.2 w5 (HG.out.n.up H.out)).mono ?_
          rintro e w6 ⟨rfl, u6⟩
          rw [HB.out.1, vs_data]
          have HZ := Hid.of (H.out.trans u6)
          clear u6 H HB
          dsimp only
          go_wp2
          go_ret
          exact ⟨by simp, HZ.out⟩
        · have dz : ((prs s.data.toList 9223372036854775807).2 != 0) = true := by simpa using hz
          generalize (prs s.data.toList 9223372036854775807).2 = q at *
          generalize (prs s.data.toList 9223372036854775807).1 = z at *
          clear hz
          dsimp only
          go_wp2
          go_ret
          exact ⟨by simp, H.out⟩
  · have dz : ((b64R s.data.toList).2 == 0) = false := by simpa using hz
    have HZ := Hid.of H.out.2
    generalize (b64R s.data.toList).2 = q0 at *
    clear H hz
    dsimp only
    go_wp2_with fail
    refine (DecodeHex_walk s _ (HG.out.d.up HZ.out)).mono ?_
    rintro e w5 ⟨va, rfl, oa, ua⟩
    have H := Hid.of (And.intro oa (HZ.out.trans ua))
    clear oa ua HZ
    by_cases hz : (hexR s.data.toList).2 = 0
    · rw [hz]
      have HB := Hid.of (hexR_zero hz)
      clear hz
      dsimp only
      go_wp2_with fail
      refine (EncodeHex_walk va _ w5 (HG.out.d.up H.out.2) (Own.sl H.out.1) (Nat.le_trans HB.out.2 (by decide))).mono ?_
      rintro e w6 ⟨rfl, u6⟩
      rw [HB.out.1, vs_data]
      have HZ := Hid.of (H.out.2.trans u6)
      clear u6 H HB
      dsimp only
      go_wp2_with fail
      refine (Unquote_walk s _ (HG.out.d.up HZ.out)).mono ?_
      rintro e w5 ⟨va, rfl, oa, ua⟩
      have H := Hid.of (And.intro oa (HZ.out.trans ua))
      clear oa ua HZ
      by_cases hz : (quoR s.data.toList).2 = 0
      · rw [hz]
        have HB := Hid.of (quoR_zero hz)
        clear hz
        dsimp only
        go_wp2_with fail
        refine (Quote_walk va _ w5 (HG.out.d.up H.out.2) (Own.sl H.out.1) (Nat.le_trans HB.out.2 (by decide))).mono ?_
        rintro e w6 ⟨rfl, u6⟩
        rw [HB.out.1, vs_data]
        have HZ := Hid.of (H.out.2.trans u6)
        clear u6 H HB
        dsimp only
        go_wp2_with fail
        refine (ParseNumber_walk s 9223372036854775807 _ (HG.out.n.up HZ.out)).mono ?_
        rintro e w5 ⟨rfl, ua⟩
        have H := Hid.of (HZ.out.trans ua)
        clear ua HZ
        by_cases hz : (prs s.data.toList 9223372036854775807).2 = 0
        · rw [hz]
          have HB := Hid.of (And.intro (num_once s.data.toList hz) (prs_rg s.data.toList 9223372036854775807))
          generalize (prs s.data.toList 9223372036854775807).1 = z at *
          clear hz
          dsimp only
          go_wp2_with fail
          refine (FormatNumber_walk z HB.out.2.1 HB.out.2.2 w5 (HG.out.n.up H.out)).mono ?_
          rintro e w6 ⟨rfl, u6⟩
          rw [HB.out.1, vs_data]
          have HZ := Hid.of (H.out.trans u6)
          clear u6 H HB
          dsimp only
          go_wp2
          go_ret
          exact ⟨by simp, HZ.out⟩
        · have dz : ((prs s.data.toList 9223372036854775807).2 != 0) = true := by simpa using hz
          generalize (prs s.data.toList 9223372036854775807).2 = q at *
          generalize (prs s.data.toList 9223372036854775807).1 = z at *
          clear hz
          dsimp only
          go_wp2
          go_ret
          exact ⟨by simp, H.out⟩
      · have dz : ((quoR s.data.toList).2 == 0) = false := by simpa using hz
        have HZ := Hid.of H.out.2
        generalize (quoR s.data.toList).2 = q2 at *
        clear H hz
        dsimp only
        go_wp2_with fail
        refine (ParseNumber_walk s 9223372036854775807 _ (HG.out.n.up HZ.out)).mono ?_
        rintro e w5 ⟨rfl, ua⟩
        have H := Hid.of (HZ.out.trans ua)
        clear ua HZ
        by_cases hz : (prs s.data.toList 9223372036854775807).2 = 0
        · rw [hz]
          have HB := Hid.of (And.intro (num_once s.data.toList hz) (prs_rg s.data.toList 9223372036854775807))
          generalize (prs s.data.toList 9223372036854775807).1 = z at *
          clear hz
          dsimp only
          go_wp2_with fail
          refine (FormatNumber_walk z HB.out.2.1 HB.out.2.2 w5 (HG.out.n.up H.out)).mono ?_
          rintro e w6 ⟨rfl, u6⟩
          rw [HB.out.1, vs_data]
          have HZ := Hid.of (H.out.trans u6)
          clear u6 H HB
          dsimp only
          go_wp2
          go_ret
          exact ⟨by simp, HZ.out⟩
        · have dz : ((prs s.data.toList 9223372036854775807).2 != 0) = true := by simpa using hz
          generalize (prs s.data.toList 9223372036854775807).2 = q at *
          generalize (prs s.data.toList 9223372036854775807).1 = z at *
          clear hz
          dsimp only
          go_wp2
          go_ret
          exact ⟨by simp, H.out⟩
    · have dz : ((hexR s.data.toList).2 == 0) = false := by simpa using hz
      have HZ := Hid.of H.out.2
      generalize (hexR s.data.toList).2 = q1 at *
      clear H hz
      dsimp only
      go_wp2_with fail
      refine (Unquote_walk s _ (HG.out.d.up HZ.out)).mono ?_
      rintro e w5 ⟨va, rfl, oa, ua⟩
      have H := Hid.of (And.intro oa (HZ.out.trans ua))
      clear oa ua HZ
      by_cases hz : (quoR s.data.toList).2 = 0
      · rw [hz]
        have HB := Hid.of (quoR_zero hz)
        clear hz
        dsimp only
        go_wp2_with fail
        refine (Quote_walk va _ w5 (HG.out.d.up H.out.2) (Own.sl H.out.1) (Nat.le_trans HB.out.2 (by decide))).mono ?_
        rintro e w6 ⟨rfl, u6⟩
        rw [HB.out.1, vs_data]
        have HZ := Hid.of (H.out.2.trans u6)
        clear u6 H HB
        dsimp only
        go_wp2_with fail
        refine (ParseNumber_walk s 9223372036854775807 _ (HG.out.n.up HZ.out)).mono ?_
        rintro e w5 ⟨rfl, ua⟩
        have H := Hid.of (HZ.out.trans ua)
        clear ua HZ
        by_cases hz : (prs s.data.toList 9223372036854775807).2 = 0
        · rw [hz]
          have HB := Hid.of (And.intro (num_once s.data.toList hz) (prs_rg s.data.toList 9223372036854775807))
          generalize (prs s.data.toList 9223372036854775807).1 = z at *
          clear hz
          dsimp only
          go_wp2_with fail
          refine (FormatNumber_walk z HB.out.2.1 HB.out.2.2 w5 (HG.out.n.up H.out)).mono ?_
          rintro e w6 ⟨rfl, u6⟩
          rw [HB.out.1, vs_data]
          have HZ := Hid.of (H.out.trans u6)
          clear u6 H HB
          dsimp only
          go_wp2
          go_ret
          exact ⟨by simp, HZ.out⟩
        · have dz : ((prs s.data.toList 9223372036854775807).2 != 0) = true := by simpa using hz
          generalize (prs s.data.toList 9223372036854775807).2 = q at *
          generalize (prs s.data.toList 9223372036854775807).1 = z at *
          clear hz
          dsimp only
          go_wp2
          go_ret
          exact ⟨by simp, H.out⟩
      · have dz : ((quoR s.data.toList).2 == 0) = false := by simpa using hz
        have HZ := Hid.of H.out.2
        generalize (quoR s.data.toList).2 = q2 at *
        clear H hz
        dsimp only
        go_wp2_with fail
        refine (ParseNumber_walk s 9223372036854775807 _ (HG.out.n.up HZ.out)).mono ?_
        rintro e w5 ⟨rfl, ua⟩
        have H := Hid.of (HZ.out.trans ua)
        clear ua HZ
        by_cases hz : (prs s.data.toList 9223372036854775807).2 = 0
        · rw [hz]
          have HB := Hid.of (And.intro (num_once s.data.toList hz) (prs_rg s.data.toList 9223372036854775807))
          generalize (prs s.data.toList 9223372036854775807).1 = z at *
          clear hz
          dsimp only
          go_wp2_with fail
          refine (FormatNumber_walk z HB.out.2.1 HB.out.2.2 w5 (HG.out.n.up H.out)).mono ?_
          rintro e w6 ⟨rfl, u6⟩
          rw [HB.out.1, vs_data]
          have HZ := Hid.of (H.out.trans u6)
          clear u6 H HB
          dsimp only
          go_wp2
          go_ret
          exact ⟨by simp, HZ.out⟩
        · have dz : ((prs s.data.toList 9223372036854775807).2 != 0) = true := by simpa using hz
          generalize (prs s.data.toList 9223372036854775807).2 = q at *
          generalize (prs s.data.toList 9223372036854775807).1 = z at *
          clear hz
          dsimp only
          go_wp2
          go_ret
          exact ⟨by simp, H.out⟩
end Go.Proofs.YtdebcddbjkejmaaDoor
