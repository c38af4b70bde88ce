import Derived.Test.YtaibjeehjhlicaaGreatDoorQag
import Derived.Test.YtaibjeehjhlicaaGreatDoorQbf
namespace Go.Proofs.YtaibjeehjhlicaaGreatDoor
open Go.RowKit Go.Shelf TextNum ModNum
theorem FOk.lasted {w w1 : World} {B : Nat} {f : FL} (h : FOk w B f) {l : LW} {v6 : Value} (o : Ow w1 B v6 (wr f.lb l.p l.ds)) (g : w.grownBy w1 f.vl.ownBlock) (fz : Frs w f.vl v6) :
    FOk (w1.setCell ⟨f.b, 1, none⟩ v6) B { f with vl := v6, lb := wr f.lb l.p l.ds } ∧ Fr (fun k => k = f.b ∨ f.vl.ownBlock = some k) w (w1.setCell ⟨f.b, 1, none⟩ v6) := by
  have lvn := World.ownsRow.lt h.now
  have hnv : f.vn.ownBlock = none ∨ f.vn.ownBlock ≠ f.vl.ownBlock := by
    cases hq : f.vn.ownBlock with
    | none => exact .inl rfl
    | some k => exact .inr (fun e => h.apart k hq e.symm)
  have hol : f.vo.ownBlock = none ∨ f.vo.ownBlock ≠ f.vl.ownBlock := by
    cases hq : f.vo.ownBlock with
    | none => exact .inl rfl
    | some k => exact .inr (fun e => own_apart h.loose h.last (by decide) hq e.symm)
  have f1 := h.file.by g (own_ne h.last h.file (by decide))
  have n1 := World.ownsRow.kept h.now g hnv
  have o1 := World.ownsRow.kept h.loose g hol
  have gF := grown_at w1 f.b 1 v6
  have hl2 : ∀ l' ∈ f.lo, l'.vk.ownBlock = none ∨ l'.vk.ownBlock ≠ f.vl.ownBlock := fun l' hl' => by
    cases hq : l'.vk.ownBlock with
    | none => exact .inl rfl
    | some k => exact .inr (fun e => ((h.each l' hl').ap k hq).2 e.symm)
  refine ⟨⟨h.low, f1.set 1 v6, World.ownsRow.kept n1 gF (.inr (own_ne n1 f1 (by decide))), World.ownsRow.kept o gF (.inr (own_ne o f1 (by decide))), ?_, World.ownsRow.kept o1 gF (.inr (own_ne o1 f1 (by decide))), ?_⟩, ?_⟩
  · intro k hk e
    rcases fz k e with h1 | h1
    · exact h.apart k hk h1
    · have := (lvn k hk).2; omega
  · intro l' hl'
    have he := h.each l' hl'
    have p1 := he.pa.by g (own_ne h.last he.pa (by decide))
    have p2 := he.pk.by g (own_ne h.last he.pk (by decide))
    have p3 := World.ownsRow.kept he.own g (hl2 l' hl')
    refine ⟨p1.by gF (fun e => f1.ne p1 (by decide) (Option.some.inj e)), p2.by gF (fun e => f1.ne p2 (by decide) (Option.some.inj e)), World.ownsRow.kept p3 gF (.inr (own_ne p3 f1 (by decide))), fun k hk => ⟨(he.ap k hk).1, fun e => ?_⟩, he.len⟩
    rcases fz k e with h1 | h1
    · exact (he.ap k hk).2 h1
    · have := (World.ownsRow.lt he.own k hk).2; omega
  · exact ((Fr.refl (fun k => k = f.b ∨ f.vl.ownBlock = some k) w).by g (fun k hk => .inl (.inr hk))).by gF (fun k hk => .inl (.inl (Option.some.inj hk).symm))
theorem FOk.dsk {w w1 : World} {B D : Nat} {dc : List Value} {f : FL} (h : FOk w B f) (hD : At w D 85 dc) (g : w.grownBy w1 (some D)) : FOk w1 B f :=
  ⟨h.low, h.file.by g (fun e => hD.ne h.file (by decide) (Option.some.inj e)), World.ownsRow.kept h.now g (.inr (own_ne h.now hD (by decide))), World.ownsRow.kept h.last g (.inr (own_ne h.last hD (by decide))), h.apart, World.ownsRow.kept h.loose g (.inr (own_ne h.loose hD (by decide))), fun l hl =>
    have he := h.each l hl
    ⟨he.pa.by g (fun e => hD.ne he.pa (by decide) (Option.some.inj e)), he.pk.by g (fun e => hD.ne he.pk (by decide) (Option.some.inj e)), World.ownsRow.kept he.own g (.inr (own_ne he.own hD (by decide))), he.ap, he.len⟩⟩
/-- the loose writes are dropped -/
theorem FOk.drop {w : World} {B : Nat} {f : FL} (h : FOk w B f) : FOk (w.setCell ⟨f.b, 2, none⟩ (.slice none 0 0)) B { f with vo := .slice none 0 0, lo := [] } := by
  have gF := grown_at w f.b 2 (.slice none 0 0)
  exact ⟨h.low, h.file.set 2 _, World.ownsRow.kept h.now gF (.inr (own_ne h.now h.file (by decide))), World.ownsRow.kept h.last gF (.inr (own_ne h.last h.file (by decide))), h.apart, World.ownsRow_nil _ _ _ _, fun l hl => by cases hl⟩
/-- the lasting bytes behind the first loose writes -/
def lay (lb : List UInt8) (lo : List LW) : List UInt8 := lo.foldl (fun acc l => wr acc l.p l.ds) lb
theorem lay_take {lo : List LW} {i : Nat} (hi : i < lo.length) (lb : List UInt8) : lay lb (lo.take (i + 1)) = wr (lay lb (lo.take i)) lo[i].p lo[i].ds := by
  unfold lay
  rw [List.take_succ_eq_append_getElem hi, List.foldl_append]
  rfl
theorem wr_le {lb ds : List UInt8} {p N : Nat} (h : lb.length ≤ N) (k : p + ds.length ≤ N) : (wr lb p ds).length ≤ N := by
  by_cases h0 : ds = []
  · unfold wr
    rw [if_pos h0]; exact h
  · rw [wr_len _ _ _ h0]; omega
set_option maxRecDepth 100000 in
set_option maxHeartbeats 4000000 in
theorem settle_gen (B D : Nat) (wrs : Int) (f : FL) (x0 x1 x2 x3 x4 x5 x6 x8 x9 x10 x11 : Value) (w : World) (hI : FOk w B f) (hA : At w D 85 [x0, x1, x2, x3, x4, x5, x6, .int .i64 wrs, x8, x9, x10, x11]) (hB : B ≤ w.heap.size) (hlb : f.lb.length ≤ 1099511627776) (hlo : f.lo.length ≤ 1099511627776) (hw0 : 0 ≤ wrs) (hw1 : wrs ≤ 4611686018427387904) :
    Calls Tryz.prog 47 #[.pointer (some ⟨D, 0, none⟩), .pointer (some ⟨f.b, 0, none⟩)] w fun e w' => e = .returned (.tuple #[]) ∧ ∃ v, At w' D 85 [x0, x1, x2, x3, x4, x5, x6, .int .i64 (wrs - f.lo.length), x8, x9, x10, x11] ∧
      FOk w' B { f with vl := v, lb := lay f.lb f.lo, vo := .slice none 0 0, lo := [] } ∧ Frs w f.vl v ∧ Fr (fun k => k = D ∨ k = f.b ∨ f.vl.ownBlock = some k) w w' := by
  have HI := Hid.of hI
  have HA := Hid.of hA
  obtain ⟨ao, co, hvo⟩ : ∃ ao co, f.vo = .slice ao f.lo.length co := by
    rcases hI.loose.2 with ⟨h, h0⟩ | ⟨g, cap, cur, h, _⟩
    · exact ⟨none, 0, by rw [h, h0]⟩
    · exact ⟨_, cap, h⟩
  have hf := hI.file
  rw [hvo] at hf
  have c2 := hf.cell (i := 2) rfl
  have HVo := Hid.of hvo
  clear hf hI hA hvo
  go_enter Tryz.func47, Tryz.ntmps47
  go_wp2
  go_loopw [5, 11] (fun _ v11 wx => ∃ i : Nat, v11 = .int .i64 (i : Int) ∧ i ≤ f.lo.length ∧ Hid (∃ v, FOk wx B { f with vl := v, lb := lay f.lb (f.lo.take i) } ∧ (lay f.lb (f.lo.take i)).length ≤ 1099511627776 ∧ Frs w f.vl v ∧ Fr (fun k => k = f.b ∨ f.vl.ownBlock = some k) w wx)) (fun _ v11 _ => f.lo.length - (intOf v11).toNat)
  case atStart => exact ⟨0, rfl, by omega, Hid.of ⟨f.vl, HI.out, hlb, Frs.refl _ _, Fr.refl _ _⟩⟩
  case round =>
    obtain ⟨i, rfl, hi, hR⟩ := hrel
    obtain ⟨wx, hwx⟩ : ∃ wx, wx = wr := ⟨_, rfl⟩
    subst hwx
    by_cases hlt : i < f.lo.length
    · have hltz : (i : Int) < (f.lo.length : Int) := by omega
      obtain ⟨v, hIr, hll, hFs, hFr⟩ := hR.out
      have HIr := Hid.of hIr
      have HLl := Hid.of hll
      have HFs := Hid.of hFs
      have HFr := Hid.of hFr
      obtain ⟨g, c, e1, hcl, d0, d1, d2⟩ := loose_cells hIr.loose hlt
      rw [show (({ f with vl := v, lb := lay f.lb (f.lo.take i) } : FL)).vo = f.vo from rfl, HVo.out] at e1
      injection e1 with e1 e2 e3
      subst e1 e3
      obtain ⟨l, hl⟩ : ∃ l, f.lo[i] = l := ⟨_, rfl⟩
      have HLm := Hid.of (show l ∈ f.lo from hl ▸ List.getElem_mem hlt)
      have HTk := Hid.of (show lay f.lb (f.lo.take (i + 1)) = Go.Proofs.YtaibjeehjhlicaaGreatDoor.wr (lay f.lb (f.lo.take i)) l.p l.ds by rw [lay_take hlt, hl])
      rw [show (({ f with vl := v, lb := lay f.lb (f.lo.take i) } : FL)).lo[i] = l from hl] at d0 d1 d2
      have hcz : (f.lo.length : Int) ≤ (co : Int) := by have h5 : f.lo.length ≤ co := hcl; omega
      rw [Nat.mul_comm 3 i] at d0 d1 d2
      clear hR hIr hFs hFr hcl hl hll
      obtain ⟨lb, hlbe⟩ : ∃ lb, lay f.lb (f.lo.take i) = lb := ⟨_, rfl⟩
      rw [hlbe] at HIr HLl HTk
      clear hlbe
      go_wp2_with fail
      have HAw := Hid.of (at_new wx 144 (lwc l.tn l.ds.length l.ba l.bk))
      have HUw := Hid.of ((Up.refl wx).alloc (.cells (lwc l.tn l.ds.length l.ba l.bk).toArray 144))
      have hWw : wx.alloc (.cells (lwc l.tn l.ds.length l.ba l.bk).toArray 144) = wx.alloc (.cells #[.int .i64 l.tn, .int .i64 (l.ds.length : Int), .func (.func 97) #[] #[.pointer (some ⟨l.ba, 0, none⟩), .pointer (some ⟨l.bk, 0, none⟩)]] 144) := rfl
      rw [hWw] at HAw HUw
      clear hWw d0 d1 d2
      generalize wx.alloc (.cells #[.int .i64 l.tn, .int .i64 (l.ds.length : Int), .func (.func 97) #[] #[.pointer (some ⟨l.ba, 0, none⟩), .pointer (some ⟨l.bk, 0, none⟩)]] 144) = W3 at *
      have HI3 := Hid.of (HIr.out.up HUw.out)
      have hlast : Ow W3 B v lb := HI3.out.last
      obtain ⟨av, cv, rfl, _⟩ := Ow.sb hlast
      have HE := Hid.of (HI3.out.each l HLm.out)
      have hlen := HE.out.len
      have hlbl := HLl.out
      have HC := Hid.of (write1_walk B (.slice av lb.length cv) l.vk lb l.ds l.p l.ba l.bk W3.drew hlast (Ow.sb HE.out.own) (by
        cases hq : l.vk.ownBlock with
        | none => exact .inl rfl
        | some k => exact .inr (fun e => (HE.out.ap k hq).2 e.symm)) (HE.out.pa.cell (i := 0) rfl) (HE.out.pk.cell (i := 0) rfl) (by omega) (by omega) (by omega) (Nat.le_trans hB (Nat.le_trans HFr.out.size HUw.out.size)))
      have HNF := Hid.of (own_ne hlast HI3.out.file (by decide))
      have cF := HI3.out.file.cell (i := 1) rfl
      have cw1 := HAw.out.cell (i := 1) rfl
      have cw2 := HAw.out.cell (i := 2) rfl
      clear hlast
      go_wp2
      apply wp_som (fun x c u => Ow u B (.slice x (Go.Proofs.YtaibjeehjhlicaaGreatDoor.wr lb l.p l.ds).length c) (Go.Proofs.YtaibjeehjhlicaaGreatDoor.wr lb l.p l.ds) ∧ W3.grownBy u (Value.slice av lb.length cv).ownBlock ∧ Frs W3 (.slice av lb.length cv) (.slice x (Go.Proofs.YtaibjeehjhlicaaGreatDoor.wr lb l.p l.ds).length c))
      case h =>
        go_region_with (go_at_call 97; refine HC.out.mono ?_; rintro e w6 ⟨v6, rfl, o6, g6, f6⟩; obtain ⟨a6, c6, hv6, _⟩ := Ow.sb o6; subst hv6; have hF6 := HI3.out.file.by (grownBy_undrew g6) HNF.out; have cF6 := hF6.cell (i := 1) rfl; have tF6 := hF6.thaw 1; have HR6 := Hid.of (And.intro o6 (And.intro (grownBy_undrew g6) f6)); clear o6 g6 f6 hF6)
        all_goals exact ⟨_, _, _, HR6.out, rfl, rfl⟩
      intro a6 c6 w6 hR6
      have hLa := HI3.out.lasted (l := l) hR6.1 hR6.2.1 hR6.2.2
      have qFs : Frs w f.vl (.slice a6 (Go.Proofs.YtaibjeehjhlicaaGreatDoor.wr lb l.p l.ds).length c6) := fun k hk => by
        rcases hR6.2.2 k hk with h | h
        · exact HFs.out k h
        · exact .inr (Nat.le_trans HFr.out.size (Nat.le_trans HUw.out.size h))
      have qFr : Fr (fun k => k = f.b ∨ f.vl.ownBlock = some k) w (w6.setCell ⟨f.b, 1, none⟩ (.slice a6 (Go.Proofs.YtaibjeehjhlicaaGreatDoor.wr lb l.p l.ds).length c6)) := (HFr.out.up HUw.out).trans hLa.2 (fun k hk => by
        rcases hk with hk | hk
        · exact .inl (.inl hk)
        · rcases HFs.out k hk with h | h
          · exact .inl (.inr h)
          · exact .inr h)
      have HRel := Hid.of (And.intro hLa.1 (And.intro (wr_le hlbl hlen) (And.intro qFs qFr)))
      clear hR6 hLa HC cF cw1 cw2 HNF HE qFs qFr
      generalize w6.setCell ⟨f.b, 1, none⟩ (.slice a6 (Go.Proofs.YtaibjeehjhlicaaGreatDoor.wr lb l.p l.ds).length c6) = W7 at *
      go_wp2
      go_roundw
      case rel => exact ⟨i + 1, by go_num, by omega, Hid.of (by rw [HTk.out]; exact ⟨_, HRel.out⟩)⟩
      case measure => simp [intOf]; omega
    · have hltz : ¬ (i : Int) < (f.lo.length : Int) := by omega
      obtain ⟨v, hIr, hll, hFs, hFr⟩ := hR.out
      rw [List.take_of_length_le (show f.lo.length ≤ i by omega)] at hIr
      have HIr := Hid.of hIr
      have HFs := Hid.of hFs
      have HFr := Hid.of hFr
      have hdx := hFr.at HA.out (fun hk => by
        rcases hk with hk | hk
        · exact HA.out.ne HI.out.file (by decide) hk
        · exact own_ne HI.out.last HA.out (by decide) hk)
      have HAx := Hid.of hdx
      have hf := hIr.file
      rw [show (({ f with vl := v, lb := lay f.lb f.lo } : FL)).vo = f.vo from rfl, HVo.out] at hf
      have e2 := hf.cell (i := 2) rfl
      have HFile := Hid.of hf
      have e7 := hdx.cell (i := 7) rfl
      have t7 := hdx.thaw 7
      have hFD := Hid.of (hdx.ne hf (by decide))
      have hww : IntKind.i64.wrap (wrs - (f.lo.length : Int)) = wrs - (f.lo.length : Int) := by rw [IntKind.wrap_i64]; omega
      clear hR hIr hFs hFr hf hdx hll
      go_wp2
      apply wp_once
      case h =>
        go_region
        all_goals exact ⟨rfl, rfl⟩
      first | rw [hww] | skip
      have g1 := grown_up (grown_at wx D 7 (.int .i64 (wrs - (f.lo.length : Int)))) (Up.refl _).drew
      have HA1 := Hid.of ((HAx.out.set 7 (.int .i64 (wrs - (f.lo.length : Int)))).up (Up.refl _).drew)
      have HG1 := Hid.of g1
      generalize (wx.setCell ⟨D, 7, none⟩ (.int .i64 (wrs - (f.lo.length : Int)))).drew = w1 at *
      have f2 := HFile.out.by g1 (fun e => hFD.out (Option.some.inj e))
      have c22 := f2.cell (i := 2) rfl
      have t22 := f2.thaw 2
      clear f2 e2 e7 t7 g1 hww
      go_wp2
      go_end0
      have fr1 : Fr (fun k => k = D) wx w1 := (Fr.refl (fun k => k = D) wx).by HG1.out (fun k hk => .inl (Option.some.inj hk).symm)
      have ok1 := HIr.out.dsk HAx.out HG1.out
      have ok2 := ok1.drop
      have gF := grown_at w1 f.b 2 (.slice none 0 0)
      refine ⟨rfl, v, HA1.out.by gF (fun e => ok1.file.ne HA1.out (by decide) (Option.some.inj e)), ok2, HFs.out, ?_⟩
      refine (((HFr.out.weak (T := fun k => k = D ∨ k = f.b ∨ f.vl.ownBlock = some k) (fun k hk => by
        rcases hk with hk | hk
        · exact .inr (.inl hk)
        · exact .inr (.inr hk))).by HG1.out (fun k hk => .inl (.inl (Option.some.inj hk).symm)))).by gF (fun k hk => .inl (.inr (.inl (Option.some.inj hk).symm)))
end Go.Proofs.YtaibjeehjhlicaaGreatDoor
namespace Go.Proofs.YtaibjeehjhlicaaGreatDoor
open Go.RowKit Go.Shelf TextNum ModNum
/-- names that stand for files' blocks -/
abbrev NM : Type := List UInt8 → Option Nat
def nput (m : NM) (l : List UInt8) (b : Nat) : NM := fun x => if x = l then some b else m x
def ndel (m : NM) (l : List UInt8) : NM := fun x => if x = l then none else m x
/-- the map reads as these names -/
def MIs (dm : DataW Unit) (m : NM) : Prop := ∀ l, Maps.has dm (.string l) = (m l).isSome ∧ ∀ b, m l = some b → ∀ z, dm.atKey (.string l) z = fd b
theorem str_ne {a b : List UInt8} (h : a ≠ b) : (Lit.string a) ≠ (Lit.string b) := fun e => h (by injection e)
theorem MIs.put {dm : DataW Unit} {m : NM} (h : MIs dm m) (hm : Maps.IsMap dm) (l : List UInt8) (b : Nat) : MIs (dm.put (.string l) (fd b)) (nput m l b) := by
  intro x
  unfold nput
  by_cases hx : x = l
  · subst hx
    rw [if_pos rfl]
    exact ⟨Maps.has_put_same hm (by simp [WideAt.IsKeyLit]) _, fun b' e z => by injection e with e; subst e; exact Maps.atKey_put_same hm (by simp [WideAt.IsKeyLit]) _ _⟩
  · rw [if_neg hx, Maps.has_put_other (str_ne hx)]
    exact ⟨(h x).1, fun b' e z => by rw [Maps.atKey_put_other (str_ne hx)]; exact (h x).2 b' e z⟩
theorem MIs.del {dm : DataW Unit} {m : NM} (h : MIs dm m) (l : List UInt8) : MIs (dm.del (.string l)) (ndel m l) := by
  intro x
  unfold ndel
  by_cases hx : x = l
  · subst hx
    rw [if_pos rfl]
    exact ⟨Maps.has_del_same, fun b' e => by cases e⟩
  · rw [if_neg hx, Maps.has_del_other (str_ne hx)]
    exact ⟨(h x).1, fun b' e z => by rw [Maps.atKey_del_other (str_ne hx)]; exact (h x).2 b' e z⟩
/-- a names' act that may be lost: 0 Create, 1 Remove, 2 Rename -/
structure NA where
  kd : Nat
  s : ByteArray
  t : ByteArray
  f : Nat
  b1 : Nat
  b2 : Nat
abbrev pv (b : Nat) : Value := .pointer (some ⟨b, 0, none⟩)
def nav (c : NA) : Value := if c.kd = 0 then .func (.func 55) #[] #[pv c.b1, pv c.b2] else if c.kd = 1 then .func (.func 100) #[] #[pv c.b2] else .func (.func 60) #[] #[pv c.b1, pv c.b2]
def nac (c : NA) (m : NM) : NM := if c.kd = 0 then nput m c.s.data.toList c.f else if c.kd = 1 then ndel m c.s.data.toList else match m c.s.data.toList with
  | some b => nput (ndel m c.s.data.toList) c.t.data.toList b
  | none => m
def nbs (c : NA) : List Nat := if c.kd = 1 then [c.b2] else [c.b1, c.b2]
structure NAOk (w : World) (c : NA) : Prop where
  sl : c.s.size ≤ 255
  tl : c.t.size ≤ 255
  b1 : c.kd ≠ 1 → At w c.b1 (if c.kd = 0 then 88 else 9) [if c.kd = 0 then pv c.f else .string c.s]
  b2 : At w c.b2 9 [.string (if c.kd = 2 then c.t else c.s)]
theorem NAOk.up {w w' : World} {c : NA} (h : NAOk w c) (k : Up w w') : NAOk w' c := ⟨h.sl, h.tl, fun e => (h.b1 e).up k, h.b2.up k⟩
theorem NAOk.fr {S : Nat → Prop} {w w' : World} {c : NA} (h : NAOk w c) (k : Fr S w w') (hS : ∀ b ∈ nbs c, ¬ S b) : NAOk w' c :=
  ⟨h.sl, h.tl, fun e => k.at (h.b1 e) (hS _ (by unfold nbs; rw [if_neg e]; simp)), k.at h.b2 (hS _ (by unfold nbs; by_cases e : c.kd = 1 <;> simp [e]))⟩
theorem NAOk.lt {w : World} {c : NA} (h : NAOk w c) : ∀ b ∈ nbs c, b < w.heap.size := by
  intro b hb
  unfold nbs at hb
  by_cases e : c.kd = 1
  · rw [if_pos e] at hb
    obtain rfl := List.mem_singleton.1 hb
    exact lt_of_at h.b2
  · rw [if_neg e] at hb
    rcases List.mem_cons.1 hb with rfl | hb
    · exact lt_of_at (h.b1 e)
    · obtain rfl := List.mem_singleton.1 hb
      exact lt_of_at h.b2
/-- a disk -/
structure DD where
  room : Nat
  M : Nat
  L : Nat
  nM : Nat
  nL : Nat
  n0 : Nat
  dm : DataW Unit
  dl : DataW Unit
  las : NM
  vC : Value
  vLo : Value
  chs : List NA
  nf : List (List UInt8 × FL)
  of : List FL
  trn : Nat
  acts : Nat
  unt : Nat
  flt : Int
  dead : Bool
def usd (nf : List (List UInt8 × FL)) : Nat := (nf.map fun p => p.2.nb.length).sum
def lsd (fs : List FL) : Nat := (fs.map fun f => f.lo.length).sum
def fls (s : DD) : List FL := s.nf.map (·.2) ++ s.of
abbrev dcl (s : DD) : List Value := [.int .i64 (s.room : Int), .int .i64 (usd s.nf : Int), .bool s.dead, .map (some s.M), .map (some s.L), s.vC, s.vLo, .int .i64 (lsd (fls s) : Int), .int .i64 (s.trn : Int), .int .i64 (s.acts : Int), .int .i64 (s.unt : Int), .int .i64 s.flt]
/-- the map of now reads as the named files -/
structure MN (dm : DataW Unit) (nf : List (List UInt8 × FL)) : Prop where
  has : ∀ l, Maps.has dm (.string l) = true ↔ l ∈ nf.map (·.1)
  val : ∀ p ∈ nf, ∀ z, dm.atKey (.string p.1) z = fd p.2.b
structure DOk (w : World) (B D T : Nat) (s : DD) : Prop where
  ml : ML w
  low : 0 < B ∧ B ≤ D ∧ B ≤ s.M ∧ B ≤ s.L
  hB : B ≤ w.heap.size
  disk : At w D 85 (dcl s)
  mnow : OM w s.M s.nM s.dm
  isn : MN s.dm s.nf
  nd : (s.nf.map (·.1)).Nodup
  nms : ∀ p ∈ s.nf, isNm p.1 = true
  mlas : OM w s.L s.nL s.dl
  isl : MIs s.dl s.las
  neq : s.M ≠ s.L
  rowC : w.ownsRow B 106 1 s.vC s.chs.length (s.chs.map nav)
  rowL : w.ownsRow B 88 1 s.vLo s.of.length (s.of.map fun f => pv f.b)
  chk : ∀ c ∈ s.chs, NAOk w c
  lap : ∀ c ∈ s.chs, ∀ k ∈ nbs c, s.vLo.ownBlock ≠ some k
  fok : ∀ f ∈ fls s, FOk w B f
  fnd : ((fls s).map (·.b)).Nodup
  apart : ∀ f ∈ fls s, ∀ g ∈ fls s, f.b ≠ g.b → ∀ k ∈ fbs f, k ∉ fbs g
  sz : ∀ f ∈ fls s, f.nb.length ≤ 1099511627776 ∧ f.lb.length ≤ 1099511627776 ∧ f.lo.length ≤ T
  num : s.chs.length ≤ T ∧ s.of.length ≤ T ∧ s.trn ≤ T ∧ s.acts ≤ T ∧ lsd (fls s) ≤ T ∧ s.nM ≤ s.n0 + T ∧ s.nL ≤ s.n0 + T ∧ T ≤ 100000 ∧ s.n0 ≤ 1000000 ∧ s.room ≤ 1099511627776 ∧ usd s.nf ≤ 1099511627776
def own (D : Nat) (s : DD) (k : Nat) : Prop := k = D ∨ k = s.M ∨ k = s.L ∨ s.vC.ownBlock = some k ∨ s.vLo.ownBlock = some k ∨ (∃ f ∈ fls s, k ∈ fbs f) ∨ ∃ c ∈ s.chs, k ∈ nbs c
theorem DOk.lt {w : World} {B D T : Nat} {s : DD} (h : DOk w B D T s) {k : Nat} (hk : own D s k) : k < w.heap.size := by
  rcases hk with rfl | rfl | rfl | hk | hk | ⟨f, hf, hk⟩ | ⟨c, hc, hk⟩
  · exact lt_of_at h.disk
  · exact World.ownsMap.lt h.mnow
  · exact World.ownsMap.lt h.mlas
  · exact (World.ownsRow.lt h.rowC k hk).2
  · exact (World.ownsRow.lt h.rowL k hk).2
  · exact (h.fok f hf).lt k hk
  · exact (h.chk c hc).lt k hk
theorem DOk.up {w w' : World} {B D T : Nat} {s : DD} (h : DOk w B D T s) (k : Up w w') : DOk w' B D T s :=
  ⟨h.ml.up k, h.low, Nat.le_trans h.hB k.size, h.disk.up k, h.mnow.up k, h.isn, h.nd, h.nms, h.mlas.up k, h.isl, h.neq, ow_up h.rowC k, ow_up h.rowL k, fun c hc => (h.chk c hc).up k, h.lap, fun f hf => (h.fok f hf).up k, h.fnd, h.apart, h.sz, h.num⟩
/-- what is done beside the disk leaves it -/
theorem DOk.fr {S : Nat → Prop} {w w' : World} {B D T : Nat} {s : DD} (h : DOk w B D T s) (k : Fr S w w') (hS : ∀ b, own D s b → ¬ S b) (hm : ¬ S 0) : DOk w' B D T s := by
  refine ⟨?_, h.low, Nat.le_trans h.hB k.size, k.at h.disk (hS _ (.inl rfl)), k.map h.mnow (hS _ (.inr (.inl rfl))), h.isn, h.nd, h.nms, k.map h.mlas (hS _ (.inr (.inr (.inl rfl)))), h.isl, h.neq, k.own h.rowC (fun g hg => hS g (.inr (.inr (.inr (.inl hg))))), k.own h.rowL (fun g hg => hS g (.inr (.inr (.inr (.inr (.inl hg)))))), fun c hc => (h.chk c hc).fr k (fun b hb => hS b (.inr (.inr (.inr (.inr (.inr (.inr ⟨c, hc, hb⟩))))))), h.lap, fun f hf => (h.fok f hf).fr k (fun b hb => hS b (.inr (.inr (.inr (.inr (.inr (.inl ⟨f, hf, hb⟩))))))), h.fnd, h.apart, h.sz, h.num⟩
  obtain ⟨m, hm0⟩ := h.ml
  refine ⟨m, ?_⟩
  rw [World.cell?_of_block (k.block _ (by have := h.low; have := h.hB; show 0 < _; omega) hm)]
  exact hm0
/-- a disk's blocks are old ones, or new -/
def Nw (N D : Nat) (s s' : DD) : Prop := ∀ k, own D s' k → own D s k ∨ N ≤ k
theorem Nw.refl (N D : Nat) (s : DD) : Nw N D s s := fun _ h => .inl h
theorem Nw.trans {N N' D : Nat} {s s1 s2 : DD} (h : Nw N D s s1) (k : Nw N' D s1 s2) (hn : N ≤ N') : Nw N D s s2 := fun b hb => (k b hb).elim (h b) (fun h => .inr (Nat.le_trans hn h))
end Go.Proofs.YtaibjeehjhlicaaGreatDoor
