import Derived.Test.YteijccjdejjbjaaDoorRe
namespace Go.Proofs.YteijccjdejjbjaaDoor
open Go.RowKit Go.Shelf ScalarNum

structure FX (w0 : World) (b x d v g k : Nat) (wr : World) : Prop where
  rx : wr.rangeAt b 0 (wl 4 v)
  tx : wr.there b 0 4
  eq : v + g * B ^ k = x + d + 15 * (x % B ^ k)
  dv : v / B ^ k = x / B ^ k
  vM : v < M
  g16 : g < 16
  gw : GB b w0 wr

theorem or4 (a g : Nat) (_ha : a < B) (hg : g < 16) : bits .or .u64 (((16 * a) % B : Nat) : Int) (g : Int) = (((16 * a) % B + g : Nat) : Int) := by
  have e : (16 * a) % B = a % 1152921504606846976 * 2 ^ 4 := by
    show (16 * a) % 18446744073709551616 = a % 1152921504606846976 * 16
    omega
  have hB : B = 18446744073709551616 := rfl
  rw [e, bits_or_u64_nat _ _ (by omega) (by omega), Nat.mul_comm _ (2 ^ 4), Nat.two_pow_add_eq_or_of_lt hg]

theorem top8 {v : Nat} (hv : v < M) : dg B v 3 / 72057594037927936 = v / 452312848583266388373324160190187140051835877600158453279131187530910662656 := by
  unfold dg
  rw [Nat.mod_eq_of_lt (Nat.div_lt_of_lt_mul (by rw [Nat.mul_comm, ← Nat.pow_succ']; rw [B4]; exact hv)), Nat.div_div_eq_div_mul, show B ^ 3 * 72057594037927936 = 452312848583266388373324160190187140051835877600158453279131187530910662656 from by decide]

theorem follow_q (x d : Nat) (hx : x < L) (hd : d < 16) : (16 * x + d) / 7237005577332262213973186563042994240829374041602535252466099000494570602496 = x / 452312848583266388373324160190187140051835877600158453279131187530910662656 ∧ x / 452312848583266388373324160190187140051835877600158453279131187530910662656 ≤ 16 := by
  unfold L at hx
  omega

set_option maxRecDepth 100000 in
set_option maxHeartbeats 4000000 in
theorem follow_num (b x d : Nat) (hb : b ≠ 0) (hx : x < L) (hd : d < 16) (w : World) (hT : Tab w) (hr : w.rangeAt b 0 (wl 4 x)) (ht : w.there b 0 4) :
    Calls Tryd.prog 59 #[.pointer (some ⟨b, 0, none⟩), .int .u64 (d : Int)] w fun e w' => e = .returned (.tuple #[]) ∧ GB b w w' ∧ w'.rangeAt b 0 (wl 4 ((16 * x + d) % L)) ∧ w'.there b 0 4 := by
  have hxM : x < M := Nat.lt_trans hx (by decide)
  have d3 : w.cell? ⟨b, 3, none⟩ = some (.int .u64 (dg B x 3 : Nat)) := by
    have := hr 3 _ (wl_get 4 _ 3 (by decide)); rwa [Nat.zero_add] at this
  have hq := top8 hxM
  obtain ⟨fq1, fq2⟩ := follow_q x d hx hd
  rw [← hq] at fq1 fq2
  generalize dg B x 3 = td at *
  obtain ⟨q, hqq⟩ : ∃ q, q = td / 72057594037927936 := ⟨_, rfl⟩
  have hqi : (td : Int) / 72057594037927936 = (q : Int) := by omega
  rw [← hqq] at fq1 fq2
  have h0 : FX w b x d x d 0 w := ⟨hr, ht, by rw [Nat.pow_zero, Nat.mod_one]; omega, rfl, hxM, hd, GB.refl _ _⟩
  have Hq := Hid.of (And.intro fq1 fq2)
  have HT := Hid.of hT
  have H0 := Hid.of h0
  clear hq fq1 fq2 hqq hT hr ht h0
  go_enter Tryd.func59, Tryd.ntmps59
  go_wp2
  clear d3 hqi
  go_loopw [1, 11] (fun v1 v11 wr => ∃ k v g : Nat, v11 = .int .i64 (k : Int) ∧ v1 = .int .u64 (g : Int) ∧ k ≤ 4 ∧ FX w b x d v g k wr) (fun _ v11 _ => 4 - (intOf v11).toNat)
  case atStart => exact ⟨0, x, d, rfl, rfl, by decide, H0.out⟩
  case round =>
    obtain ⟨k, v, g, rfl, rfl, hk, hF⟩ := hrel
    clear H0
    obtain ⟨rx, tx, eq, dv, vM, g16, gw⟩ := hF
    by_cases hlt : k < 4
    · have d1 : wr.cell? ⟨b, k, none⟩ = some (.int .u64 (dg B v k : Nat)) := by
        have := rx k _ (wl_get 4 _ k hlt); rwa [Nat.zero_add] at this
      have d3 : wr.frozen? ⟨b, k, none⟩ = false := by
        have := (tx k hlt).2; rwa [Nat.zero_add] at this
      obtain ⟨s1, s2, s3, s4⟩ := shl_step eq g16 dv
      have hst := st_lt (n := 4) B_pos s1 hlt (by rw [B4]; exact vM)
      have hw1 : dg B v k < 18446744073709551616 := dg_lt B_pos
      have ho := or4 (dg B v k) g hw1 g16
      have e1 : IntKind.u64.wrap ((dg B v k : Int) * 16) = (((16 * dg B v k) % B : Nat) : Int) := by
        rw [IntKind.wrap_u64]
        show _ = ((16 * dg B v k % 18446744073709551616 : Nat) : Int)
        omega
      have e2 : ((dg B v k : Nat) : Int) / 1152921504606846976 = (((16 * dg B v k) / B : Nat) : Int) := by
        show _ = ((16 * dg B v k / 18446744073709551616 : Nat) : Int)
        omega
      generalize (16 * dg B v k) % B + g = rr at *
      generalize (16 * dg B v k) % B = r0 at *
      generalize (16 * dg B v k) / B = qq at *
      generalize dg B v k = vd at *
      have b1 : (k : Int) < 4 := by omega
      have H1 := Hid.of s1
      have H2 := Hid.of s2
      have H3 := Hid.of s3
      have H4 := Hid.of rx
      have H5 := Hid.of tx
      have H6 := Hid.of s4
      have H7 := Hid.of hst
      have H8 := Hid.of gw
      clear s1 s2 s3 rx tx s4 hst gw eq vM g16 dv hw1
      go_wp2
      go_region
      go_wp2
      go_roundw
      case rel =>
        refine ⟨k + 1, st B v k rr, qq, by go_num, rfl, by omega, ?_⟩
        exact ⟨wrange_set H4.out H1.out hlt, there_setCell H5.out _ _, H2.out, H6.out, by rw [← B4]; exact H7.out, H3.out, GB.drewN (GB.setCell H8.out _) 1⟩
      case measure => simp [intOf]; omega
    · have hk4 : k = 4 := by omega
      subst hk4
      rw [B4, Nat.mod_eq_of_lt hxM] at eq
      have e1 : (16 * x + d) % M = v := by
        rw [show 16 * x + d = v + g * M by omega, Nat.add_mul_mod_self_right, Nat.mod_eq_of_lt vM]
      have H := Hid.of (And.intro e1 (And.intro rx (And.intro tx gw)))
      clear rx tx eq vM g16 dv gw e1 hk hlt
      go_wp2_with fail
      obtain ⟨e1, rx, tx, gw⟩ := H.out
      refine Calls.mono (divide_num b q (16 * x + d) hb Hq.out.1 Hq.out.2 _ (HT.out.gb gw hb) (by rw [e1]; exact rx) tx) ?_
      rintro e w1 ⟨rfl, g1, r1, t1⟩
      have H9 := Hid.of (And.intro (GB.trans gw g1) (And.intro r1 t1))
      clear H e1 rx tx gw g1 r1 t1 HT Hq
      dsimp only
      go_wp2
      go_end0
      exact ⟨rfl, H9.out⟩
end Go.Proofs.YteijccjdejjbjaaDoor
