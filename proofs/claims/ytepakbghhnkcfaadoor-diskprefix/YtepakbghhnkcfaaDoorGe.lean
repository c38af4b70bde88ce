import Derived.Test.YtepakbghhnkcfaaDoorGc
namespace Go.Proofs.YtepakbghhnkcfaaDoor
open Go.RowKit Go.Shelf TextNum ModNum
theorem FOk.lasted {w w1 : World} {B : Nat} {f : FL} (h : FOk w B f) {l : LW} {v6 : Value} (o : Ow w1 B v6 (wr f.lb l.p l.ds)) (g : w.grownBy w1 f.vl.ownBlock) (fz : Frs w f.vl v6) :
    FOk (w1.setCell ⟨f.b, 1, none⟩ v6) B { f with vl := v6, lb := wr f.lb l.p l.ds } ∧ Fr (fun k => k = f.b ∨ f.vl.ownBlock = some k) w (w1.setCell ⟨f.b, 1, none⟩ v6) := by
  have lvn := World.ownsRow.lt h.now
  have hnv : f.vn.ownBlock = none ∨ f.vn.ownBlock ≠ f.vl.ownBlock := by
    cases hq : f.vn.ownBlock with
    | none => exact .inl rfl
    | some k => exact .inr (fun e => h.apart k hq e.symm)
  have hol : f.vo.ownBlock = none ∨ f.vo.ownBlock ≠ f.vl.ownBlock := by
    cases hq : f.vo.ownBlock with
    | none => exact .inl rfl
    | some k => exact .inr (fun e => own_apart h.loose h.last (by decide) hq e.symm)
  have f1 := h.file.by g (own_ne h.last h.file (by decide))
  have n1 := World.ownsRow.kept h.now g hnv
  have o1 := World.ownsRow.kept h.loose g hol
  have gF := grown_at w1 f.b 1 v6
  have hl2 : ∀ l' ∈ f.lo, l'.vk.ownBlock = none ∨ l'.vk.ownBlock ≠ f.vl.ownBlock := fun l' hl' => by
    cases hq : l'.vk.ownBlock with
    | none => exact .inl rfl
    | some k => exact .inr (fun e => ((h.each l' hl').ap k hq).2 e.symm)
  refine ⟨⟨h.low, f1.set 1 v6, World.ownsRow.kept n1 gF (.inr (own_ne n1 f1 (by decide))), World.ownsRow.kept o gF (.inr (own_ne o f1 (by decide))), ?_, World.ownsRow.kept o1 gF (.inr (own_ne o1 f1 (by decide))), ?_⟩, ?_⟩
  · intro k hk e
    rcases fz k e with h1 | h1
    · exact h.apart k hk h1
    · have := (lvn k hk).2; omega
  · intro l' hl'
    have he := h.each l' hl'
    have p1 := he.pa.by g (own_ne h.last he.pa (by decide))
    have p2 := he.pk.by g (own_ne h.last he.pk (by decide))
    have p3 := World.ownsRow.kept he.own g (hl2 l' hl')
    refine ⟨p1.by gF (fun e => f1.ne p1 (by decide) (Option.some.inj e)), p2.by gF (fun e => f1.ne p2 (by decide) (Option.some.inj e)), World.ownsRow.kept p3 gF (.inr (own_ne p3 f1 (by decide))), fun k hk => ⟨(he.ap k hk).1, fun e => ?_⟩, he.len⟩
    rcases fz k e with h1 | h1
    · exact (he.ap k hk).2 h1
    · have := (World.ownsRow.lt he.own k hk).2; omega
  · exact ((Fr.refl (fun k => k = f.b ∨ f.vl.ownBlock = some k) w).by g (fun k hk => .inl (.inr hk))).by gF (fun k hk => .inl (.inl (Option.some.inj hk).symm))
theorem FOk.dsk {w w1 : World} {B D : Nat} {dc : List Value} {f : FL} (h : FOk w B f) (hD : At w D 82 dc) (g : w.grownBy w1 (some D)) : FOk w1 B f :=
  ⟨h.low, h.file.by g (fun e => hD.ne h.file (by decide) (Option.some.inj e)), World.ownsRow.kept h.now g (.inr (own_ne h.now hD (by decide))), World.ownsRow.kept h.last g (.inr (own_ne h.last hD (by decide))), h.apart, World.ownsRow.kept h.loose g (.inr (own_ne h.loose hD (by decide))), fun l hl =>
    have he := h.each l hl
    ⟨he.pa.by g (fun e => hD.ne he.pa (by decide) (Option.some.inj e)), he.pk.by g (fun e => hD.ne he.pk (by decide) (Option.some.inj e)), World.ownsRow.kept he.own g (.inr (own_ne he.own hD (by decide))), he.ap, he.len⟩⟩
/-- the loose writes are dropped -/
theorem FOk.drop {w : World} {B : Nat} {f : FL} (h : FOk w B f) : FOk (w.setCell ⟨f.b, 2, none⟩ (.slice none 0 0)) B { f with vo := .slice none 0 0, lo := [] } := by
  have gF := grown_at w f.b 2 (.slice none 0 0)
  exact ⟨h.low, h.file.set 2 _, World.ownsRow.kept h.now gF (.inr (own_ne h.now h.file (by decide))), World.ownsRow.kept h.last gF (.inr (own_ne h.last h.file (by decide))), h.apart, World.ownsRow_nil _ _ _ _, fun l hl => by cases hl⟩
/-- the lasting bytes behind the first loose writes -/
def lay (lb : List UInt8) (lo : List LW) : List UInt8 := lo.foldl (fun acc l => wr acc l.p l.ds) lb
theorem lay_take {lo : List LW} {i : Nat} (hi : i < lo.length) (lb : List UInt8) : lay lb (lo.take (i + 1)) = wr (lay lb (lo.take i)) lo[i].p lo[i].ds := by
  unfold lay
  rw [List.take_succ_eq_append_getElem hi, List.foldl_append]
  rfl
theorem wr_le {lb ds : List UInt8} {p N : Nat} (h : lb.length ≤ N) (k : p + ds.length ≤ N) : (wr lb p ds).length ≤ N := by
  by_cases h0 : ds = []
  · unfold wr
    rw [if_pos h0]; exact h
  · rw [wr_len _ _ _ h0]; omega
set_option maxRecDepth 100000 in
set_option maxHeartbeats 4000000 in
theorem settle_gen (B D : Nat) (wrs : Int) (f : FL) (x0 x1 x2 x3 x4 x5 x6 x8 x9 x10 x11 : Value) (w : World) (hI : FOk w B f) (hA : At w D 82 [x0, x1, x2, x3, x4, x5, x6, .int .i64 wrs, x8, x9, x10, x11]) (hB : B ≤ w.heap.size) (hlb : f.lb.length ≤ 1099511627776) (hlo : f.lo.length ≤ 1099511627776) (hw0 : 0 ≤ wrs) (hw1 : wrs ≤ 4611686018427387904) :
    Calls Tryd.prog 38 #[.pointer (some ⟨D, 0, none⟩), .pointer (some ⟨f.b, 0, none⟩)] w fun e w' => e = .returned (.tuple #[]) ∧ ∃ v, At w' D 82 [x0, x1, x2, x3, x4, x5, x6, .int .i64 (wrs - f.lo.length), x8, x9, x10, x11] ∧
      FOk w' B { f with vl := v, lb := lay f.lb f.lo, vo := .slice none 0 0, lo := [] } ∧ Frs w f.vl v ∧ Fr (fun k => k = D ∨ k = f.b ∨ f.vl.ownBlock = some k) w w' := by
  have HI := Hid.of hI
  have HA := Hid.of hA
  obtain ⟨ao, co, hvo⟩ : ∃ ao co, f.vo = .slice ao f.lo.length co := by
    rcases hI.loose.2 with ⟨h, h0⟩ | ⟨g, cap, cur, h, _⟩
    · exact ⟨none, 0, by rw [h, h0]⟩
    · exact ⟨_, cap, h⟩
  have hf := hI.file
  rw [hvo] at hf
  have c2 := hf.cell (i := 2) rfl
  have HVo := Hid.of hvo
  clear hf hI hA hvo
  go_enter Tryd.func38, Tryd.ntmps38
  go_wp2
  go_loopw [5, 11] (fun _ v11 wx => ∃ i : Nat, v11 = .int .i64 (i : Int) ∧ i ≤ f.lo.length ∧ Hid (∃ v, FOk wx B { f with vl := v, lb := lay f.lb (f.lo.take i) } ∧ (lay f.lb (f.lo.take i)).length ≤ 1099511627776 ∧ Frs w f.vl v ∧ Fr (fun k => k = f.b ∨ f.vl.ownBlock = some k) w wx)) (fun _ v11 _ => f.lo.length - (intOf v11).toNat)
  case atStart => exact ⟨0, rfl, by omega, Hid.of ⟨f.vl, HI.out, hlb, Frs.refl _ _, Fr.refl _ _⟩⟩
  case round =>
    obtain ⟨i, rfl, hi, hR⟩ := hrel
    obtain ⟨wx, hwx⟩ : ∃ wx, wx = wr := ⟨_, rfl⟩
    subst hwx
    by_cases hlt : i < f.lo.length
    · have hltz : (i : Int) < (f.lo.length : Int) := by omega
      obtain ⟨v, hIr, hll, hFs, hFr⟩ := hR.out
      have HIr := Hid.of hIr
      have HLl := Hid.of hll
      have HFs := Hid.of hFs
      have HFr := Hid.of hFr
      obtain ⟨g, c, e1, hcl, d0, d1, d2⟩ := loose_cells hIr.loose hlt
      rw [show (({ f with vl := v, lb := lay f.lb (f.lo.take i) } : FL)).vo = f.vo from rfl, HVo.out] at e1
      injection e1 with e1 e2 e3
      subst e1 e3
      obtain ⟨l, hl⟩ : ∃ l, f.lo[i] = l := ⟨_, rfl⟩
      have HLm := Hid.of (show l ∈ f.lo from hl ▸ List.getElem_mem hlt)
      have HTk := Hid.of (show lay f.lb (f.lo.take (i + 1)) = Go.Proofs.YtepakbghhnkcfaaDoor.wr (lay f.lb (f.lo.take i)) l.p l.ds by rw [lay_take hlt, hl])
      rw [show (({ f with vl := v, lb := lay f.lb (f.lo.take i) } : FL)).lo[i] = l from hl] at d0 d1 d2
      have hcz : (f.lo.length : Int) ≤ (co : Int) := by have h5 : f.lo.length ≤ co := hcl; omega
      rw [Nat.mul_comm 3 i] at d0 d1 d2
      clear hR hIr hFs hFr hcl hl hll
      obtain ⟨lb, hlbe⟩ : ∃ lb, lay f.lb (f.lo.take i) = lb := ⟨_, rfl⟩
      rw [hlbe] at HIr HLl HTk
      clear hlbe
      go_wp2_with fail
      have HAw := Hid.of (at_new wx 100 (lwc l.tn l.ds.length l.ba l.bk))
      have HUw := Hid.of ((Up.refl wx).alloc (.cells (lwc l.tn l.ds.length l.ba l.bk).toArray 100))
      have hWw : wx.alloc (.cells (lwc l.tn l.ds.length l.ba l.bk).toArray 100) = wx.alloc (.cells #[.int .i64 l.tn, .int .i64 (l.ds.length : Int), .func (.func 56) #[] #[.pointer (some ⟨l.ba, 0, none⟩), .pointer (some ⟨l.bk, 0, none⟩)]] 100) := rfl
      rw [hWw] at HAw HUw
      clear hWw d0 d1 d2
      generalize wx.alloc (.cells #[.int .i64 l.tn, .int .i64 (l.ds.length : Int), .func (.func 56) #[] #[.pointer (some ⟨l.ba, 0, none⟩), .pointer (some ⟨l.bk, 0, none⟩)]] 100) = W3 at *
      have HI3 := Hid.of (HIr.out.up HUw.out)
      have hlast : Ow W3 B v lb := HI3.out.last
      obtain ⟨av, cv, rfl, _⟩ := Ow.sb hlast
      have HE := Hid.of (HI3.out.each l HLm.out)
      have hlen := HE.out.len
      have hlbl := HLl.out
      have HC := Hid.of (write1_walk B (.slice av lb.length cv) l.vk lb l.ds l.p l.ba l.bk W3.drew hlast (Ow.sb HE.out.own) (by
        cases hq : l.vk.ownBlock with
        | none => exact .inl rfl
        | some k => exact .inr (fun e => (HE.out.ap k hq).2 e.symm)) (HE.out.pa.cell (i := 0) rfl) (HE.out.pk.cell (i := 0) rfl) (by omega) (by omega) (by omega) (Nat.le_trans hB (Nat.le_trans HFr.out.size HUw.out.size)))
      have HNF := Hid.of (own_ne hlast HI3.out.file (by decide))
      have cF := HI3.out.file.cell (i := 1) rfl
      have cw1 := HAw.out.cell (i := 1) rfl
      have cw2 := HAw.out.cell (i := 2) rfl
      clear hlast
      go_wp2
      apply wp_som (fun x c u => Ow u B (.slice x (Go.Proofs.YtepakbghhnkcfaaDoor.wr lb l.p l.ds).length c) (Go.Proofs.YtepakbghhnkcfaaDoor.wr lb l.p l.ds) ∧ W3.grownBy u (Value.slice av lb.length cv).ownBlock ∧ Frs W3 (.slice av lb.length cv) (.slice x (Go.Proofs.YtepakbghhnkcfaaDoor.wr lb l.p l.ds).length c))
      case h =>
        go_region_with (go_at_call 56; refine HC.out.mono ?_; rintro e w6 ⟨v6, rfl, o6, g6, f6⟩; obtain ⟨a6, c6, hv6, _⟩ := Ow.sb o6; subst hv6; have hF6 := HI3.out.file.by (grownBy_undrew g6) HNF.out; have cF6 := hF6.cell (i := 1) rfl; have tF6 := hF6.thaw 1; have HR6 := Hid.of (And.intro o6 (And.intro (grownBy_undrew g6) f6)); clear o6 g6 f6 hF6)
        all_goals exact ⟨_, _, _, HR6.out, rfl, rfl⟩
      intro a6 c6 w6 hR6
      have hLa := HI3.out.lasted (l := l) hR6.1 hR6.2.1 hR6.2.2
      have qFs : Frs w f.vl (.slice a6 (Go.Proofs.YtepakbghhnkcfaaDoor.wr lb l.p l.ds).length c6) := fun k hk => by
        rcases hR6.2.2 k hk with h | h
        · exact HFs.out k h
        · exact .inr (Nat.le_trans HFr.out.size (Nat.le_trans HUw.out.size h))
      have qFr : Fr (fun k => k = f.b ∨ f.vl.ownBlock = some k) w (w6.setCell ⟨f.b, 1, none⟩ (.slice a6 (Go.Proofs.YtepakbghhnkcfaaDoor.wr lb l.p l.ds).length c6)) := (HFr.out.up HUw.out).trans hLa.2 (fun k hk => by
        rcases hk with hk | hk
        · exact .inl (.inl hk)
        · rcases HFs.out k hk with h | h
          · exact .inl (.inr h)
          · exact .inr h)
      have HRel := Hid.of (And.intro hLa.1 (And.intro (wr_le hlbl hlen) (And.intro qFs qFr)))
      clear hR6 hLa HC cF cw1 cw2 HNF HE qFs qFr
      generalize w6.setCell ⟨f.b, 1, none⟩ (.slice a6 (Go.Proofs.YtepakbghhnkcfaaDoor.wr lb l.p l.ds).length c6) = W7 at *
      go_wp2
      go_roundw
      case rel => exact ⟨i + 1, by go_num, by omega, Hid.of (by rw [HTk.out]; exact ⟨_, HRel.out⟩)⟩
      case measure => simp [intOf]; omega
    · have hltz : ¬ (i : Int) < (f.lo.length : Int) := by omega
      obtain ⟨v, hIr, hll, hFs, hFr⟩ := hR.out
      rw [List.take_of_length_le (show f.lo.length ≤ i by omega)] at hIr
      have HIr := Hid.of hIr
      have HFs := Hid.of hFs
      have HFr := Hid.of hFr
      have hdx := hFr.at HA.out (fun hk => by
        rcases hk with hk | hk
        · exact HA.out.ne HI.out.file (by decide) hk
        · exact own_ne HI.out.last HA.out (by decide) hk)
      have HAx := Hid.of hdx
      have hf := hIr.file
      rw [show (({ f with vl := v, lb := lay f.lb f.lo } : FL)).vo = f.vo from rfl, HVo.out] at hf
      have e2 := hf.cell (i := 2) rfl
      have HFile := Hid.of hf
      have e7 := hdx.cell (i := 7) rfl
      have t7 := hdx.thaw 7
      have hFD := Hid.of (hdx.ne hf (by decide))
      have hww : IntKind.i64.wrap (wrs - (f.lo.length : Int)) = wrs - (f.lo.length : Int) := by rw [IntKind.wrap_i64]; omega
      clear hR hIr hFs hFr hf hdx hll
      go_wp2
      apply wp_once
      case h =>
        go_region
        all_goals exact ⟨rfl, rfl⟩
      first | rw [hww] | skip
      have g1 := grown_up (grown_at wx D 7 (.int .i64 (wrs - (f.lo.length : Int)))) (Up.refl _).drew
      have HA1 := Hid.of ((HAx.out.set 7 (.int .i64 (wrs - (f.lo.length : Int)))).up (Up.refl _).drew)
      have HG1 := Hid.of g1
      generalize (wx.setCell ⟨D, 7, none⟩ (.int .i64 (wrs - (f.lo.length : Int)))).drew = w1 at *
      have f2 := HFile.out.by g1 (fun e => hFD.out (Option.some.inj e))
      have c22 := f2.cell (i := 2) rfl
      have t22 := f2.thaw 2
      clear f2 e2 e7 t7 g1 hww
      go_wp2
      go_end0
      have fr1 : Fr (fun k => k = D) wx w1 := (Fr.refl (fun k => k = D) wx).by HG1.out (fun k hk => .inl (Option.some.inj hk).symm)
      have ok1 := HIr.out.dsk HAx.out HG1.out
      have ok2 := ok1.drop
      have gF := grown_at w1 f.b 2 (.slice none 0 0)
      refine ⟨rfl, v, HA1.out.by gF (fun e => ok1.file.ne HA1.out (by decide) (Option.some.inj e)), ok2, HFs.out, ?_⟩
      refine (((HFr.out.weak (T := fun k => k = D ∨ k = f.b ∨ f.vl.ownBlock = some k) (fun k hk => by
        rcases hk with hk | hk
        · exact .inr (.inl hk)
        · exact .inr (.inr hk))).by HG1.out (fun k hk => .inl (.inl (Option.some.inj hk).symm)))).by gF (fun k hk => .inl (.inr (.inl (Option.some.inj hk).symm)))
end Go.Proofs.YtepakbghhnkcfaaDoor
