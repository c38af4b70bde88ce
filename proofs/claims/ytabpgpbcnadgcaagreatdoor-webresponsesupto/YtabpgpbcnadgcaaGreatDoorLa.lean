import Derived.Test.YtabpgpbcnadgcaaGreatDoorYz
import Derived.BigRegionIn
import Derived.Lib.CountLaws
import Derived.Lib.Split
import Derived.Test.YtabpgpbcnadgcaaGreatDoorYo
import Derived.Test.YtabpgpbcnadgcaaGreatDoorYd
namespace Go.Proofs.YtabpgpbcnadgcaaGreatDoor
open Go.RowKit Go.Shelf TextNum
attribute [local go_sem] Oper.semAt_some
/-- one field line -/
def fln (ln : List UInt8) : FD := ⟨⟨(c1 58 (tcr ln)).toArray⟩, ⟨(trm (c2 58 (tcr ln))).toArray⟩⟩
def fok (ln : List UInt8) : Bool := (Go.Lib.cut (tcr ln) [58]).2.2 && (tok (c1 58 (tcr ln)) && vlu (trm (c2 58 (tcr ln))))
/-- the fields of field lines -/
def rdf (l : List UInt8) : Er (List FD) := if 64 < Go.Lib.countByte l 10 then .error 1 else if (linesOf l).all fok = true then .ok ((linesOf l).map fln) else .error 5
theorem tcr_suf (l : List UInt8) : Go.Lib.trimSuffix l [13] = tcr l := by
  unfold Go.Lib.trimSuffix tcr
  have h : Go.Lib.hasSuffix l [13] = decide (l.getLast? = some 13) := by
    rw [Bool.eq_iff_iff, decide_eq_true_eq]
    unfold Go.Lib.hasSuffix
    rw [List.isSuffixOf_iff_suffix]
    constructor
    · rintro ⟨t, rfl⟩; simp
    · intro h
      obtain ⟨t, ht⟩ := List.getLast?_eq_some_iff.1 h
      exact ⟨t, ht.symm⟩
  rw [h]
  by_cases hl : l.getLast? = some 13
  · rw [if_pos (decide_eq_true hl), if_pos hl, List.dropLast_eq_take]
    rfl
  · rw [if_neg (by simpa using hl), if_neg hl]
theorem TrimCr_walk (s : ByteArray) (hs : s.size ≤ 1048576) (w : World) : Calls Tryz.prog 151 #[.string s, .string ⟨#[13]⟩] w fun e w' => e = .returned (vs (tcr s.data.toList)) ∧ w' = w := by
  have h := Any.strings_TrimSuffix Tryz.lays102 s ⟨#[13]⟩ w (by omega)
  rw [show (⟨#[13]⟩ : ByteArray).data.toList = [13] from rfl, tcr_suf] at h
  exact h
theorem Up.keeps {W W' : World} (h : Up W W') (B : Nat) : KeepsFrom B W W' := ⟨h.size, fun k _ _ hk _ => (h.block k (lt_of_at hk)).trans hk⟩
theorem Boxed.up {W W' : World} {B : Nat} {t : TypeId} {v : Value} (h : Boxed W B t v) (k : Up W W') : Boxed W' B t v := (k.block B h.lt).trans h
def rdR (ad : Nat → Addr) (w w' : World) (e : Ending) : Er (List FD) → Prop
  | .error k => e = .returned (.tuple #[.slice none 0 0, ev (ad k)])
  | .ok fs => ∃ a c, e = .returned (.tuple #[.slice a fs.length c, .nilIface]) ∧ Hid (FdO w' w.heap.size a fs c)
def fls (pre : List LnS) : List FD := pre.map fun x => fln x.1.2
theorem fd_new (w : World) (nm vl : ByteArray) : ∀ j u, [Value.string nm, Value.string vl][j]? = some u → (w.alloc (.cells #[.string nm, .string vl] 89)).cell? ((⟨w.heap.size, 0, none⟩ : Addr).add j) = some u := fun j u hu => by
  rw [Addr.add_lit]
  exact At.cell (at_new w 89 [.string nm, .string vl]) (i := 0 + j) (by rw [Nat.zero_add]; exact hu)
theorem rd_fin {w W : World} {D : Nat} {a : Option Addr} {n c : Nat} {fs : List FD} {ad : Nat → Addr} (hD : w.heap.size + 1 < D) (hK : W.heap[D]? = some (.deferred (some []))) (hrow : W.ownsRow w.heap.size 89 2 (.slice a n c) fs.length (fdc fs)) (hB : Below w.heap.size w W)
    (c2 : Boxed W w.heap.size 36 (.slice none 0 0)) (c3 : Boxed W (w.heap.size + 1) 106 .nilIface) (tmps : Array Value) (h2 : tmps.getD 2 undef = .pointer (some ⟨w.heap.size, 0, none⟩)) (h3 : tmps.getD 3 undef = .pointer (some ⟨w.heap.size + 1, 0, none⟩)) :
    ∃ r, (results Tryz.f117 tmps).run Tryz.prog ((((W.setCell ⟨w.heap.size, 0, none⟩ (.slice a n c)).setCell ⟨w.heap.size + 1, 0, none⟩ .nilIface).putObj D (.deferred none))) = .ok r ((((W.setCell ⟨w.heap.size, 0, none⟩ (.slice a n c)).setCell ⟨w.heap.size + 1, 0, none⟩ .nilIface).putObj D (.deferred none))) ∧
      rdR ad w ((((W.setCell ⟨w.heap.size, 0, none⟩ (.slice a n c)).setCell ⟨w.heap.size + 1, 0, none⟩ .nilIface).putObj D (.deferred none))) (.returned r) (.ok fs) ∧ Up w ((((W.setCell ⟨w.heap.size, 0, none⟩ (.slice a n c)).setCell ⟨w.heap.size + 1, 0, none⟩ .nilIface).putObj D (.deferred none))) := by
  have G1 := grownBy_setCell' W w.heap.size (.slice a n c)
  have G2 := grownBy_setCell' (W.setCell ⟨w.heap.size, 0, none⟩ (.slice a n c)) (w.heap.size + 1) .nilIface
  have hK' : ((W.setCell ⟨w.heap.size, 0, none⟩ (.slice a n c)).setCell ⟨w.heap.size + 1, 0, none⟩ .nilIface).heap[D]? = some (.deferred (some [])) := by
    rw [Below.heap_setCell _ _ _ _ (by show D ≠ w.heap.size + 1; omega), Below.heap_setCell _ _ _ _ (by show D ≠ w.heap.size; omega)]; exact hK
  have G3 := grownBy_putObj' ((W.setCell ⟨w.heap.size, 0, none⟩ (.slice a n c)).setCell ⟨w.heap.size + 1, 0, none⟩ .nilIface) D (.deferred none)
  have g2 := ((c2.set (.slice a n c)).kept G2 (by simp)).kept G3 (by simp; omega)
  have g3 := ((c3.kept G1 (by simp)).set .nilIface).kept G3 (by simp; omega)
  have n2 := c2.not_row (by decide) hrow
  have n3 := c3.not_row (by decide) hrow
  have r1 := hrow.kept G1 (.inr fun h => n2 h.symm)
  have r2 := r1.kept G2 (.inr fun h => n3 h.symm)
  have r3 := ownsRow_putObj r2 (.deferred none) hK' rfl
  have B3 : Below w.heap.size w (((W.setCell ⟨w.heap.size, 0, none⟩ (.slice a n c)).setCell ⟨w.heap.size + 1, 0, none⟩ .nilIface).putObj D (.deferred none)) := (((hB.setCell (p := ⟨w.heap.size, 0, none⟩) (by simp) _).setCell (p := ⟨w.heap.size + 1, 0, none⟩) (by show w.heap.size ≤ w.heap.size + 1; omega) _)).trans (belowK_b (w := w) (Nat.le_refl _) _ D _ _ (by omega) hK' rfl rfl)
  have hn : n = fs.length := by
    rcases hrow.2 with ⟨e, h0⟩ | ⟨g, cap, cur, e, _⟩
    · injection e with _ e _
      omega
    · injection e with _ e _
  subst hn
  exact ⟨_, results_cell2 rfl tmps _ _ _ _ _ h2 h3 g2.cell g3.cell Tryz.underlying36 rfl Tryz.underlying106 rfl, ⟨a, c, rfl, Hid.of r3⟩, B3⟩
/-- what the loop over the lines keeps -/
def RB (w : World) (pre : List LnS) (W : World) : Prop :=
  ((∃ v, Boxed W (w.heap.size + 1 + 1) 36 v ∧ W.ownsRow w.heap.size 89 2 v (fls pre).length (fdc (fls pre)) ∧ True) ∧ Below w.heap.size w W) ∧ (Boxed W w.heap.size 36 (.slice none 0 0) ∧ Boxed W (w.heap.size + 1) 106 .nilIface)
theorem RB_own (w : World) (n : Nat) (hn : w.heap.size ≤ n) : OwnFrom n (RB w) :=
  OwnFrom.and (OwnFrom.and (Own.from (holdsRow_own w.heap.size (w.heap.size + 1 + 1) 36 89 2 (fun pre : List LnS => (fls pre).length) (fun pre => fdc (fls pre)) (fun _ _ => True)) _) (ownFrom_below (Nat.le_refl _) hn)) (OwnFrom.and (boxed_own _ _ _ _) (boxed_own _ _ _ _))
/-- how the loop is left by a line that is no field -/
def RX (ad : Nat → Addr) (w : World) (W : World) : Prop := Boxed W w.heap.size 36 (.slice none 0 0) ∧ Boxed W (w.heap.size + 1) 106 (ev (ad 5)) ∧ Below w.heap.size w W
theorem RX_own (ad : Nat → Addr) (w : World) (n : Nat) (hn : w.heap.size ≤ n) : OwnFrom (β := List LnS) n (fun _ W => RX ad w W) :=
  OwnFrom.and (boxed_own _ _ _ _) (OwnFrom.and (boxed_own _ _ _ _) (ownFrom_below (Nat.le_refl _) hn))
set_option maxRecDepth 100000 in
set_option maxHeartbeats 2000000 in
theorem readFields_walk (ad : Nat → Addr) (s : ByteArray) (hs : s.size ≤ 16384) (w : World) (h : GE w ad) : Calls Tryz.prog 117 #[.string s] w fun e w' => rdR ad w w' e (rdf s.data.toList) ∧ Up w w' := by
  have HG := Hid.of h
  clear h
  have HCt := Hid.of (fun w2 => Any.strings_Count_one Tryz.lays138 s 10 w2)
  have hcn : Go.Lib.countByte s.data.toList 10 ≤ 1048576 := by
    have h1 : Go.Lib.countByte s.data.toList 10 ≤ s.data.toList.length := List.count_le_length
    rw [← Go.Lib.size_eq] at h1
    omega
  have HRd := Hid.of (show rdf s.data.toList = if 64 < Go.Lib.countByte s.data.toList 10 then .error 1 else if (linesOf s.data.toList).all fok = true then .ok ((linesOf s.data.toList).map fln) else .error 5 from rfl)
  generalize Go.Lib.countByte s.data.toList 10 = cn at *
  refine (callsIn_wide (n := 4)).1 ?_
  refine callsIn_of_wp_marks Tryz.func117 rfl trivial ?_ rfl
  simp only [Tryz.ntmps117, List.size_toArray, List.length_cons, List.length_nil, Nat.reduceAdd, Nat.reduceSub, Array.replicate_succ, Array.replicate_zero, List.push_toArray, List.append_toArray, List.nil_append, List.cons_append]
  gi_wp2_with fail
  refine ⟨trivial, ?_⟩
  refine (callsIn_wide.2 (HCt.out _)).mono ?_
  rintro e w' ⟨rfl, hw⟩
  obtain rfl := hw.symm
  dsimp only
  have b2 := (Boxed.new w 36 (.slice none 0 0)).alloc (.cells #[.nilIface] 106)
  have b3 := Boxed.new (w.alloc (.cells #[.slice none 0 0] 36)) 106 .nilIface
  rw [World.size_alloc] at b3
  have hU : Up w ((w.alloc (.cells #[.slice none 0 0] 36)).alloc (.cells #[.nilIface] 106)) := ((Up.refl w).alloc _).alloc _
  have hsz : ((w.alloc (.cells #[.slice none 0 0] 36)).alloc (.cells #[.nilIface] 106)).heap.size = w.heap.size + 1 + 1 := by simp
  generalize ((w.alloc (.cells #[.slice none 0 0] 36)).alloc (.cells #[.nilIface] 106)) = W1 at *
  have HB := Hid.of (And.intro b2 (And.intro b3 hU))
  clear b2 b3 hU
  by_cases h64 : 64 < cn
  · have h64z : (64 : Int) < (cn : Int) := by omega
    have HE := Hid.of (show rdf s.data.toList = .error 1 by rw [HRd.out, if_pos h64])
    have hgl : W1.cell? ⟨2, 0, none⟩ = _ := (HG.out.up HB.out.2.2).gl 1 (by decide)
    have k2 := HB.out.1.cell
    have f2 := HB.out.1.frozen
    have k3 := HB.out.2.1.cell
    have f3 := HB.out.2.1.frozen
    have HU3 := Hid.of (HB.out.2.2.by (grownBy_setCell' W1 w.heap.size (.slice none 0 0)) (fun g hg => by have := Option.some.inj hg; omega))
    have hgl2 : (W1.setCell ⟨w.heap.size, 0, none⟩ (.slice none 0 0)).cell? ⟨2, 0, none⟩ = _ := (HG.out.up HU3.out).gl 1 (by decide)
    have B3 := Hid.of (HB.out.2.1.kept (grownBy_setCell' W1 w.heap.size (.slice none 0 0)) (by simp))
    have B2 := Hid.of (HB.out.1.set (.slice none 0 0))
    have k4 := B3.out.cell
    have f4 := B3.out.frozen
    gi_wp2
    gi_region
    all_goals (have B5 := Hid.of ((B3.out.set (ev (ad 1)))))
    all_goals (have B4 := Hid.of (B2.out.kept (grownBy_setCell' (W1.setCell ⟨w.heap.size, 0, none⟩ (.slice none 0 0)) (w.heap.size + 1) (ev (ad 1))) (by simp)))
    all_goals (have HU6 := Hid.of (HU3.out.by (grownBy_setCell' (W1.setCell ⟨w.heap.size, 0, none⟩ (.slice none 0 0)) (w.heap.size + 1) (ev (ad 1))) (fun g hg => by have := Option.some.inj hg; omega)))
    all_goals gi_wp2
    rw [HE.out]
    exact ⟨_, results_cell2 rfl _ _ _ _ _ _ rfl rfl B4.out.cell B5.out.cell Tryz.underlying36 rfl Tryz.underlying106 rfl, rfl, HU6.out.drew⟩
  · have h64z : ¬ (64 : Int) < (cn : Int) := by omega
    have HR2 := Hid.of (show rdf s.data.toList = if (linesOf s.data.toList).all fok = true then .ok ((linesOf s.data.toList).map fln) else .error 5 by rw [HRd.out, if_neg h64])
    clear h64 HRd HCt
    gi_wp2_with fail
    refine ⟨trivial, ?_⟩
    refine (callsIn_wide.2 (each_in s _)).mono ?_
    rintro e w' ⟨rfl, hw⟩
    obtain rfl := hw.symm
    dsimp only
    have c2 := (HB.out.1.alloc (.cells #[.slice none 0 0] 36)).alloc (.cells #[.string s] 9)
    have c3 := (HB.out.2.1.alloc (.cells #[.slice none 0 0] 36)).alloc (.cells #[.string s] 9)
    have c4 := (Boxed.new W1 36 (.slice none 0 0)).alloc (.cells #[.string s] 9)
    have c5 := Boxed.new (W1.alloc (.cells #[.slice none 0 0] 36)) 9 (.string s)
    have hU5 : Up w ((W1.alloc (.cells #[.slice none 0 0] 36)).alloc (.cells #[.string s] 9)) := (HB.out.2.2.alloc _).alloc _
    rw [World.size_alloc] at c5
    have hsz5 : ((W1.alloc (.cells #[.slice none 0 0] 36)).alloc (.cells #[.string s] 9)).heap.size = w.heap.size + 1 + 1 + 1 + 1 := by simp [hsz]
    simp only [World.size_alloc, hsz] at c4 c5 ⊢
    generalize ((W1.alloc (.cells #[.slice none 0 0] 36)).alloc (.cells #[.string s] 9)) = W5 at *
    have h00 : RB w [] W5 := ⟨⟨⟨_, c4, World.ownsRow_nil _ _ _ _, trivial⟩, hU5⟩, c2, c3⟩
    clear c2 c3 c4 hU5 HB hsz W1
    gi_wp2_with fail
    refine wpIn_rangeFunc_ownG rfl (by decide) (gf := 180) (lb := #[.pointer (some ⟨w.heap.size + 1 + 1 + 1, 0, none⟩)]) rfl trivial (enters_of Tryz.func180 (by kernel_rfl) rfl)
      (each_stops2 3 (by decide) (w.heap.size + 1 + 1 + 1) w.heap.size s hs W5 (by omega) c5.cell) belowK_t (belowK_b (by omega)) (Below.refl _ _) (fun _ => rfl)
      (fun (pre : List LnS) W => (pre.all fun x => fok x.1.2) = true ∧ RB w pre W)
      (fun c pre W => (c = .ret ∧ (pre.all fun x => fok x.1.2) = false) ∧ RX ad w W)
      (fun s W W' row hs hg hr => ⟨hs.1, RB_own w W5.heap.size (by omega) s W W' row hs.2 hg hr⟩)
      (fun c s W W' row hs hg hr => ⟨hs.1, RX_own ad w W5.heap.size (by omega) s W W' row hs.2 hg hr⟩)
      ⟨rfl, h00⟩
      (fun x => { tmps := #[.string s, undef, .pointer (some ⟨w.heap.size, 0, none⟩), .pointer (some ⟨w.heap.size + 1, 0, none⟩), .pointer (some ⟨w.heap.size + 1 + 1, 0, none⟩), undef, .string ⟨x.1.2.toArray⟩, undef, undef, undef, undef, .string s, .int .i64 (cn : Int), .bool false, undef, .string s, .func (.func 180) #[] #[.pointer (some ⟨w.heap.size + 1 + 1 + 1, 0, none⟩)], .int .i64 (x.1.1 : Int), .string ⟨x.1.2.toArray⟩, undef, undef, undef, undef, undef, undef, undef, undef, undef, undef, undef, undef, undef, undef, undef, undef, undef, undef, undef, undef, undef, undef, undef, undef], defers := [] }) ?assign ?body ?done ?stop
    case assign =>
      intro l x W K hK
      gi_wp2
      exact hK
    case body =>
      rintro l pre x W ⟨hall, hb⟩ hlt
      obtain ⟨⟨⟨v, hv, hrow, _⟩, hB⟩, e2, e3⟩ := hb
      obtain ⟨⟨k, y⟩, hy⟩ := x
      dsimp only at hy ⊢
      have hys : (⟨y.toArray⟩ : ByteArray).size ≤ 1048576 := by rw [str_len]; omega
      gi_wp2_with fail
      refine ⟨trivial, ?_⟩
      refine (CallsIn.inRound l (callsIn_wide.2 (TrimCr_walk ⟨y.toArray⟩ hys W))).mono ?_
      rintro e w' ⟨rfl, hw⟩
      obtain rfl := hw.symm
      dsimp only
      gi_wp2_with fail
      have hcl := c_len 58 (tcr y)
      have htl := tcr_len y
      refine ⟨trivial, ?_⟩
      refine (CallsIn.inRound l (callsIn_wide.2 (Cut_up ⟨(tcr y).toArray⟩ (by rw [str_len]; omega) 58 W))).mono ?_
      rintro e w2 ⟨rfl, h9⟩
      have HU2 := Hid.of h9
      clear h9
      dsimp only
      gi_wp2_with fail
      refine ⟨trivial, ?_⟩
      refine (CallsIn.inRound l (callsIn_wide.2 (trim_walk ⟨(c2 58 (tcr y)).toArray⟩ (by rw [str_len]; omega) w2))).mono ?_
      rintro e w3 ⟨rfl, h9⟩
      have HU3' := Hid.of (HU2.out.trans h9)
      clear h9 HU2
      dsimp only
      have HFk := Hid.of (show fok y = ((Go.Lib.cut (tcr y) [58]).2.2 && (tok (c1 58 (tcr y)) && vlu (trm (c2 58 (tcr y))))) from rfl)
      have HFl := Hid.of (show fln y = ⟨⟨(c1 58 (tcr y)).toArray⟩, ⟨(trm (c2 58 (tcr y))).toArray⟩⟩ from rfl)
      have htr := trm_len (c2 58 (tcr y))
      obtain ⟨nm, hnm⟩ : ∃ nm : ByteArray, (⟨(c1 58 (tcr y)).toArray⟩ : ByteArray) = nm := ⟨_, rfl⟩
      obtain ⟨vl, hvl⟩ : ∃ vl : ByteArray, (⟨(trm (c2 58 (tcr y))).toArray⟩ : ByteArray) = vl := ⟨_, rfl⟩
      have hnd : c1 58 (tcr y) = nm.data.toList := by rw [← hnm]
      have hvd : trm (c2 58 (tcr y)) = vl.data.toList := by rw [← hvl]
      have hns : nm.size ≤ 1048576 := by rw [Go.Lib.size_eq, ← hnd]; omega
      have hvs : vl.size ≤ 1048576 := by rw [Go.Lib.size_eq, ← hvd]; omega
      rw [hnm, hvl] at HFl
      rw [hnd, hvd] at HFk
      rw [hnd, hvd, vs_data', vs_data']
      generalize (Go.Lib.cut (tcr y) [58]).2.2 = ok at *
      generalize c2 58 (tcr y) = c2y at *
      generalize tcr y = ty at *
      clear hnm hvl hnd hvd htr hcl htl
      have HA3 := Hid.of (at_new w3 89 [.string nm, .string vl])
      have HUW := Hid.of (HU3'.out.alloc (.cells #[.string nm, .string vl] 89))
      have HBx := Hid.of (And.intro (Boxed.up e2 HUW.out) (And.intro (Boxed.up e3 HUW.out) (Up.trans hB HUW.out)))
      cases ok with
      | false =>
        have hF : fok y = false := by rw [HFk.out]; rfl
        have hgl : (w3.alloc (.cells #[.string nm, .string vl] 89)).cell? ⟨15, 0, none⟩ = _ := (HG.out.up HBx.out.2.2).gl 5 (by decide)
        have k2 := HBx.out.1.cell
        have f2 := HBx.out.1.frozen
        have k3 := HBx.out.2.1.cell
        have f3 := HBx.out.2.1.frozen
        have HU3 := Hid.of (HBx.out.2.2.by (grownBy_setCell' (w3.alloc (.cells #[.string nm, .string vl] 89)) w.heap.size (.slice none 0 0)) (fun g hg => by have := Option.some.inj hg; omega))
        have hgl2 : ((w3.alloc (.cells #[.string nm, .string vl] 89)).setCell ⟨w.heap.size, 0, none⟩ (.slice none 0 0)).cell? ⟨15, 0, none⟩ = _ := (HG.out.up HU3.out).gl 5 (by decide)
        have B3 := Hid.of (HBx.out.2.1.kept (grownBy_setCell' (w3.alloc (.cells #[.string nm, .string vl] 89)) w.heap.size (.slice none 0 0)) (by simp))
        have B2 := Hid.of (HBx.out.1.set (.slice none 0 0))
        have k4 := B3.out.cell
        have f4 := B3.out.frozen
        have B5 := Hid.of (B3.out.set (ev (ad 5)))
        have B4 := Hid.of (B2.out.kept (grownBy_setCell' ((w3.alloc (.cells #[.string nm, .string vl] 89)).setCell ⟨w.heap.size, 0, none⟩ (.slice none 0 0)) (w.heap.size + 1) (ev (ad 5))) (by simp))
        have HU6 := Hid.of (HU3.out.by (grownBy_setCell' ((w3.alloc (.cells #[.string nm, .string vl] 89)).setCell ⟨w.heap.size, 0, none⟩ (.slice none 0 0)) (w.heap.size + 1) (ev (ad 5))) (fun g hg => by have := Option.some.inj hg; omega))
        gi_wp2
        refine ⟨trivial, ?_⟩
        gi_wp2
        gi_region
        all_goals gi_wp2
        all_goals refine ⟨(HUW.out.keeps _).trans ((((KeepsOthers.setCell (w3.alloc (.cells #[.string nm, .string vl] 89)) _ _).trans (KeepsOthers.setCell _ _ _)).trans (KeepsOthers.drew _)).from _), ⟨rfl, ?_⟩, B4.out, B5.out, HU6.out.drew⟩
        all_goals rw [List.all_append]
        all_goals simp [hF]
      | true =>
        have HMb := Hid.of (mayBeField_walk nm vl (by omega) (by omega) (w3.alloc (.cells #[.string nm, .string vl] 89)))
        gi_wp2_with fail
        refine ⟨trivial, ?_⟩
        refine (CallsIn.inRound l (callsIn_wide.2 HMb.out)).mono ?_
        rintro e w4 ⟨rfl, h9⟩
        have HUW4 := Hid.of (HUW.out.trans h9)
        have HA4 := Hid.of (HA3.out.up h9)
        clear h9 HMb HA3 HUW HBx
        dsimp only
        have HBy := Hid.of (And.intro (Boxed.up e2 HUW4.out) (And.intro (Boxed.up e3 HUW4.out) (Up.trans hB HUW4.out)))
        cases hmf : (tok nm.data.toList && vlu vl.data.toList) with
        | false =>
          have hF : fok y = false := by rw [HFk.out, hmf]; rfl
          clear hmf
          have hgl : (w4).cell? ⟨15, 0, none⟩ = _ := (HG.out.up HBy.out.2.2).gl 5 (by decide)
          have k2 := HBy.out.1.cell
          have f2 := HBy.out.1.frozen
          have k3 := HBy.out.2.1.cell
          have f3 := HBy.out.2.1.frozen
          have HU3 := Hid.of (HBy.out.2.2.by (grownBy_setCell' (w4) w.heap.size (.slice none 0 0)) (fun g hg => by have := Option.some.inj hg; omega))
          have hgl2 : ((w4).setCell ⟨w.heap.size, 0, none⟩ (.slice none 0 0)).cell? ⟨15, 0, none⟩ = _ := (HG.out.up HU3.out).gl 5 (by decide)
          have B3 := Hid.of (HBy.out.2.1.kept (grownBy_setCell' (w4) w.heap.size (.slice none 0 0)) (by simp))
          have B2 := Hid.of (HBy.out.1.set (.slice none 0 0))
          have k4 := B3.out.cell
          have f4 := B3.out.frozen
          have B5 := Hid.of (B3.out.set (ev (ad 5)))
          have B4 := Hid.of (B2.out.kept (grownBy_setCell' ((w4).setCell ⟨w.heap.size, 0, none⟩ (.slice none 0 0)) (w.heap.size + 1) (ev (ad 5))) (by simp))
          have HU6 := Hid.of (HU3.out.by (grownBy_setCell' ((w4).setCell ⟨w.heap.size, 0, none⟩ (.slice none 0 0)) (w.heap.size + 1) (ev (ad 5))) (fun g hg => by have := Option.some.inj hg; omega))
          gi_wp2
          gi_region
          all_goals gi_wp2
          all_goals refine ⟨(HUW4.out.keeps _).trans ((((KeepsOthers.setCell (w4) _ _).trans (KeepsOthers.setCell _ _ _)).trans (KeepsOthers.drew _)).from _), ⟨rfl, ?_⟩, B4.out, B5.out, HU6.out.drew⟩
          all_goals rw [List.all_append]
          all_goals simp [hF]
        | true =>
          have hF : fok y = true := by rw [HFk.out, hmf]; rfl
          clear hmf
          have HV4 := Hid.of (Boxed.up hv HUW4.out)
          have HR4 := Hid.of (ow_up hrow HUW4.out)
          have hc4 := HV4.out.cell
          have ha0 : w4.cell? ⟨w3.heap.size, 0, none⟩ = some (.string nm) := HA4.out.cell (i := 0) rfl
          have ha1 : w4.cell? ⟨w3.heap.size, 1, none⟩ = some (.string vl) := HA4.out.cell (i := 1) rfl
          obtain ⟨av, cv, rfl⟩ : ∃ a c, v = .slice a (fls pre).length c := by
            rcases hrow.2 with ⟨rfl, e⟩ | ⟨g, cap, cur, rfl, _⟩
            · exact ⟨none, 0, by rw [e]⟩
            · exact ⟨_, _, rfl⟩
          have hfl : (fls pre).length = pre.length := by simp [fls]
          have hll := lines_len s.data.toList
          rw [← Go.Lib.size_eq] at hll
          have HW4s := Hid.of (show w.heap.size ≤ w4.heap.size from Nat.le_trans hB.size HUW4.out.size)
          have HFs := Hid.of (show fls (pre ++ [⟨(k, y), hy⟩]) = fls pre ++ [⟨nm, vl⟩] by simp [fls, HFl.out])
          obtain ⟨i1, hi1, hz0, hz1, hz2⟩ := info_parts Tryz.infoFd
          have hsn : (fls pre).length ≤ 16384 := by rw [hfl]; omega
          obtain ⟨nf, hnf⟩ : ∃ nf, (fls pre).length = nf := ⟨_, rfl⟩
          have HNf := Hid.of hnf
          rw [hnf] at hsn HR4 hc4 HV4
          clear hfl hnf
          gi_wp2_with (gi_at_builtin; refine wpListIn_append_own _ rfl _ _ 36 rfl w.heap.size 89 i1 (.agg #[.string ⟨#[]⟩, .string ⟨#[]⟩]) 2 32 Tryz.underlying36 hi1 hz0 hz1 hz2 rfl (by decide) _ _ _ rfl (HR4.out.alloc _) ⟨w4.heap.size, 0, none⟩ 1 1 [.string nm, .string vl] rfl rfl (fd_new w4 nm vl) (by simp [Value.oneCell']) (by unfold maxLen; omega) (by omega) (by have := HW4s.out; simp; omega) ?_; intro v' w5 hown' hgrow' _; obtain ⟨g', cap', rfl⟩ := ownsRow_succ hown'; obtain ⟨hv1, hv2, hr2, hk2, hb2⟩ := HV4.out.appended (by decide) HR4.out HW4s.out (by omega) hown' hgrow'; have hc1 := hv1.cell; have hf1 := hv1.frozen; have f2 := ((HBy.out.1.alloc _).kept hgrow' (HBy.out.1.not_row (by decide) HR4.out)).kept (grownBy_setCell' w5 (w.heap.size + 1 + 1) (.slice (some ⟨g', 0, none⟩) (nf + 1) cap')) (by simp; omega); have f3 := ((HBy.out.2.1.alloc _).kept hgrow' (HBy.out.2.1.not_row (by decide) HR4.out)).kept (grownBy_setCell' w5 (w.heap.size + 1 + 1) (.slice (some ⟨g', 0, none⟩) (nf + 1) cap')) (by simp))
          refine ⟨(HUW4.out.keeps _).trans (hk2.from _), (HUW4.out.mono hB.size).trans hb2, ?_, ⟨⟨⟨_, hv2, ?_, trivial⟩, (hB.trans (HUW4.out.mono hB.size)).trans hb2⟩, f2, f3⟩⟩
          · rw [List.all_append, hall]
            simp [hF]
          · rw [HFs.out, fdc_snoc, List.length_append, HNf.out]
            exact hr2
    case done =>
      rintro D ys W hD hys ⟨hall, hb⟩ hK
      obtain ⟨⟨⟨v, hv, hrow, _⟩, hB⟩, e2, e3⟩ := hb
      obtain ⟨av, nv, cv, rfl⟩ : ∃ a n c, v = .slice a n c := by
        rcases hrow.2 with ⟨rfl, e⟩ | ⟨g, cap, cur, rfl, _⟩
        · exact ⟨none, 0, 0, rfl⟩
        · exact ⟨_, _, _, rfl⟩
      have hc := hv.cell
      have hc2 := e2.cell
      have hf2 := e2.frozen
      have hc3 := (e3.kept (grownBy_setCell' W w.heap.size (.slice av nv cv)) (by simp)).cell
      have hf3 := (e3.kept (grownBy_setCell' W w.heap.size (.slice av nv cv)) (by simp)).frozen
      gi_wp2
      refine ⟨by simp, .inl ⟨_, _, rfl, run_takeDeferred ?_, ?_⟩⟩
      · rw [Below.heap_setCell _ _ _ _ (by show D ≠ w.heap.size + 1; omega), Below.heap_setCell _ _ _ _ (by show D ≠ w.heap.size; omega)]; exact hK
      · have hyl : ys.map (fun x => x.1.2) = linesOf s.data.toList := by
          have h1 := congrArg (List.map (·.2)) hys
          rw [ixn_map, List.map_map] at h1
          exact h1
        have hfl : fls ys = (linesOf s.data.toList).map fln := by
          rw [← hyl, List.map_map]; rfl
        have hal : (linesOf s.data.toList).all fok = true := by
          rw [← hyl, List.all_map]; exact hall
        rw [HR2.out, if_pos hal]
        rw [hfl] at hrow
        exact rd_fin (by omega) hK hrow hB e2 e3 _ rfl rfl
    case stop =>
      rintro D c pre W hD ⟨r, hr⟩ ⟨⟨rfl, hall⟩, hX⟩ hK
      gi_wp2
      refine ⟨by simp, .inl ⟨_, _, rfl, run_takeDeferred hK, ?_⟩⟩
      have hal : ¬ (linesOf s.data.toList).all fok = true := by
        intro h1
        have h2 := congrArg (List.map (·.2)) hr
        rw [ixn_map, List.map_append, List.map_map] at h2
        rw [h2, List.all_append, List.all_map] at h1
        rw [Bool.and_eq_true] at h1
        have h3 : (pre.all fun x => fok x.1.2) = true := h1.1
        rw [hall] at h3
        cases h3
      rw [HR2.out, if_neg hal]
      have g2 := hX.1.kept (grownBy_putObj' W D (.deferred none)) (by have := hX.1.lt; simp; omega)
      have g3 := hX.2.1.kept (grownBy_putObj' W D (.deferred none)) (by have := hX.2.1.lt; simp; omega)
      exact ⟨_, results_cell2 rfl _ _ _ _ _ _ rfl rfl g2.cell g3.cell Tryz.underlying36 rfl Tryz.underlying106 rfl, rfl, hX.2.2.trans (belowK_b (w := w) (Nat.le_refl _) _ D _ _ (by omega) hK rfl rfl)⟩
end Go.Proofs.YtabpgpbcnadgcaaGreatDoor
namespace Go.Proofs.YtabpgpbcnadgcaaGreatDoor
open Go.RowKit Go.Shelf TextNum
/-- where a line ends is where the whole finds it too -/
theorem fnl_take {l : List UInt8} {i m : Nat} (h : fnl l = some i) (hm : i < m) : fnl (l.take m) = some i := by
  unfold fnl at *
  rw [List.findIdx?_eq_some_iff_getElem] at h ⊢
  obtain ⟨h1, h2, h3⟩ := h
  refine ⟨by rw [List.length_take]; omega, ?_, ?_⟩
  · rw [List.getElem_take]; exact h2
  · intro j hj
    rw [List.getElem_take]
    exact h3 j hj
theorem fnl_take_none {l : List UInt8} {i m : Nat} (h : fnl l = some i) (hm : m ≤ i) : fnl (l.take m) = none := by
  unfold fnl at *
  rw [List.findIdx?_eq_some_iff_getElem] at h
  obtain ⟨h1, h2, h3⟩ := h
  rw [List.findIdx?_eq_none_iff]
  intro x hx
  obtain ⟨j, hj, rfl⟩ := List.getElem_of_mem hx
  rw [List.length_take] at hj
  have := h3 j (by omega)
  rw [List.getElem_take]
  simpa using this
theorem fnl_take_no {l : List UInt8} {m : Nat} (h : fnl l = none) : fnl (l.take m) = none := by
  unfold fnl at *
  rw [List.findIdx?_eq_none_iff] at *
  exact fun x hx => h x (List.mem_of_mem_take hx)
theorem tcr_ge (l : List UInt8) : l.length ≤ (tcr l).length + 1 := by
  unfold tcr
  split
  · rw [List.length_dropLast]; omega
  · omega
theorem cutL_ref (m : Nat) (l : List UInt8) : cutL m l = match fnl l with
    | none => if l.length < m + 2 then .error 2 else .error 1
    | some i => if m < (tcr (l.take i)).length then .error 1 else .ok (tcr (l.take i), i + 1) := by
  unfold cutL
  cases hf : fnl l with
  | none => rw [fnl_take_no hf]
  | some i =>
    have hl := fnl_lt hf
    by_cases hi : i < m + 2
    · rw [fnl_take hf hi]
    · rw [fnl_take_none hf (by omega)]
      have h1 := tcr_ge (l.take i)
      rw [List.length_take, Nat.min_eq_left (by omega)] at h1
      dsimp only
      rw [if_neg (by omega), if_pos (by omega)]
/-- the lines up to the first empty one: they, their bytes, and with the empty one's -/
def rfl' : Nat → List UInt8 → Option (List (List UInt8) × Nat × Nat)
  | 0, _ => none
  | f + 1, l => match fnl l with
    | none => none
    | some i => if tcr (l.take i) = [] then some ([], 0, i + 1) else (rfl' f (l.drop (i + 1))).map fun p => (tcr (l.take i) :: p.1, i + 1 + p.2.1, i + 1 + p.2.2)
theorem rfl'_take : ∀ (f m : Nat) (l : List UInt8) (ls : List (List UInt8)) (p a : Nat), m ≤ 16384 → a ≤ m → rfl' f l = some (ls, p, a) → mfl f (l.take m) = some (p, a)
  | 0, _, _, _, _, _, _, _, h => by cases h
  | f + 1, m, l, ls, p, a, hm, ha, h => by
    unfold rfl' at h
    cases hf : fnl l with
    | none => rw [hf] at h; cases h
    | some i =>
      rw [hf] at h
      dsimp only at h
      have hil := fnl_lt hf
      have key : i < m := by
        split at h
        · injection h with h; injection h with _ h; injection h with _ h; omega
        · obtain ⟨q, _, h2⟩ := Option.map_eq_some_iff.1 h
          injection h2 with _ h2; injection h2 with _ h2; omega
      have ht : (l.take m).take i = l.take i := by rw [List.take_take, Nat.min_eq_left (by omega)]
      have hl1 := tcr_len (l.take i)
      rw [List.length_take] at hl1
      unfold mfl
      rw [cutL_ref, fnl_take hf key]
      dsimp only
      rw [ht, if_neg (by omega)]
      dsimp only
      split at h
      · rename_i he
        rw [if_pos he]
        injection h with h; injection h with _ h; injection h with h1 h2
        rw [← h1, ← h2]
      · rename_i he
        rw [if_neg he]
        obtain ⟨⟨ls', p', a'⟩, h1, h2⟩ := Option.map_eq_some_iff.1 h
        injection h2 with h3 h2; injection h2 with h4 h5
        dsimp only at h3 h4 h5
        rw [List.drop_take, rfl'_take f (m - (i + 1)) (l.drop (i + 1)) ls' p' a' (by omega) (by omega) h1]
        simp only [Option.map_some]
        rw [h4, h5]
theorem rfl'_of : ∀ (f : Nat) (l : List UInt8) (p a : Nat), mfl f l = some (p, a) → ∃ ls, rfl' f l = some (ls, p, a)
  | 0, _, _, _, h => by cases h
  | f + 1, l, p, a, h => by
    unfold mfl at h
    rw [cutL_ref] at h
    cases hf : fnl l with
    | none =>
      rw [hf] at h
      dsimp only at h
      split at h
      · rename_i e; split at e <;> first | cases h | cases e
      · rename_i e; split at e <;> cases e
    | some i =>
      rw [hf] at h
      dsimp only at h
      by_cases hc : 16384 < (tcr (l.take i)).length
      · rw [if_pos hc] at h; cases h
      · rw [if_neg hc] at h
        dsimp only at h
        unfold rfl'
        rw [hf]
        dsimp only
        split at h
        · rename_i he
          rw [if_pos he]
          injection h with h; injection h with h1 h2
          exact ⟨[], by rw [← h1, ← h2]⟩
        · rename_i he
          rw [if_neg he]
          obtain ⟨⟨p', a'⟩, h1, h2⟩ := Option.map_eq_some_iff.1 h
          obtain ⟨ls, h3⟩ := rfl'_of f _ p' a' h1
          injection h2 with h4 h5
          dsimp only at h4 h5
          exact ⟨tcr (l.take i) :: ls, by rw [h3]; simp only [Option.map_some]; rw [h4, h5]⟩
theorem rfl'_more (t : List UInt8) : ∀ (f : Nat) (l : List UInt8) (q : List (List UInt8) × Nat × Nat), rfl' f l = some q → rfl' f (l ++ t) = some q
  | 0, _, _, h => by cases h
  | f + 1, l, q, h => by
    unfold rfl' at h ⊢
    cases hf : fnl l with
    | none => rw [hf] at h; cases h
    | some i =>
      have hil := fnl_lt hf
      rw [hf] at h
      rw [fnl_app hf]
      dsimp only at h ⊢
      rw [List.take_append_of_le_length (by omega)]
      split at h
      · rename_i he; rw [if_pos he]; exact h
      · rename_i he
        rw [if_neg he]
        obtain ⟨q', h1, h2⟩ := Option.map_eq_some_iff.1 h
        rw [List.drop_append_of_le_length (by omega), rfl'_more t f _ q' h1, ← h2]
        rfl
theorem rfl'_fuel : ∀ (f g : Nat) (l : List UInt8), l.length < f → l.length < g → rfl' f l = rfl' g l
  | 0, _, _, h, _ => absurd h (by omega)
  | _, 0, _, _, h => absurd h (by omega)
  | f + 1, g + 1, l, hf, hg => by
    unfold rfl'
    cases hc : fnl l with
    | none => rfl
    | some i =>
      have h1 := fnl_lt hc
      dsimp only
      rw [rfl'_fuel f g (l.drop (i + 1)) (by rw [List.length_drop]; omega) (by rw [List.length_drop]; omega)]
/-- the field lines, by the definition -/
def rF (l : List UInt8) : Option (List (List UInt8) × Nat × Nat) := rfl' (l.length + 1) l
theorem mF_ref (l : List UInt8) : mF l = match rF l with
    | none => if 16384 < l.length then .error 1 else .error 2
    | some (_, p, a) => if 16384 < a then .error 1 else .ok (p, a) := by
  unfold mF rF
  cases hr : rfl' (l.length + 1) l with
  | none =>
    cases hm : mfl (l.length + 1) (l.take 16384) with
    | none => rfl
    | some q =>
      obtain ⟨p, a⟩ := q
      obtain ⟨ls, h1⟩ := rfl'_of _ _ _ _ hm
      have h2 := rfl'_more (l.drop 16384) _ _ _ h1
      rw [List.take_append_drop, hr] at h2
      cases h2
  | some q =>
    obtain ⟨ls, p, a⟩ := q
    dsimp only
    by_cases ha : 16384 < a
    · rw [if_pos ha]
      cases hm : mfl (l.length + 1) (l.take 16384) with
      | none =>
        have h1 : a ≤ l.length := by
          have key : ∀ (f : Nat) (l : List UInt8) (ls : List (List UInt8)) (p a : Nat), rfl' f l = some (ls, p, a) → a ≤ l.length := by
            intro f
            induction f with
            | zero => intro l ls p a h; cases h
            | succ f ih =>
              intro l ls p a h
              unfold rfl' at h
              cases hf : fnl l with
              | none => rw [hf] at h; cases h
              | some i =>
                have hil := fnl_lt hf
                rw [hf] at h
                dsimp only at h
                split at h
                · injection h with h; injection h with _ h; injection h with _ h; omega
                · obtain ⟨⟨ls', p', a'⟩, h1, h2⟩ := Option.map_eq_some_iff.1 h
                  have := ih _ _ _ _ h1
                  rw [List.length_drop] at this
                  injection h2 with _ h2; injection h2 with _ h2
                  dsimp only at h2
                  omega
          exact key _ _ _ _ _ hr
        dsimp only
        rw [if_pos (by omega)]
      | some q =>
        obtain ⟨p', a'⟩ := q
        obtain ⟨ls', h1⟩ := rfl'_of _ _ _ _ hm
        have h2 := rfl'_more (l.drop 16384) _ _ _ h1
        rw [List.take_append_drop, hr] at h2
        injection h2 with h2; injection h2 with _ h2; injection h2 with _ h2
        have h3 := mfl_ok _ _ _ hm
        rw [List.length_take] at h3
        dsimp only at h3
        omega
    · rw [if_neg ha, rfl'_take _ 16384 l ls p a (Nat.le_refl _) (by omega) hr]
theorem linesOf_line {a : List UInt8} (h : (10 : UInt8) ∉ a) (r : List UInt8) : linesOf (a ++ 10 :: r) = a :: linesOf r := by
  rw [linesOf_cons (by simp), take_line h, drop_line h]
theorem fnl_no {l : List UInt8} {i : Nat} (h : fnl l = some i) : (10 : UInt8) ∉ l.take i ∧ l.drop i = 10 :: l.drop (i + 1) := by
  unfold fnl at h
  rw [List.findIdx?_eq_some_iff_getElem] at h
  obtain ⟨h1, h2, h3⟩ := h
  refine ⟨?_, ?_⟩
  · intro hx
    obtain ⟨j, hj, e⟩ := List.getElem_of_mem hx
    rw [List.length_take] at hj
    rw [List.getElem_take] at e
    have := h3 j (by omega)
    rw [e] at this
    exact this rfl
  · rw [List.drop_eq_getElem_cons h1]
    rw [beq_iff_eq] at h2
    rw [h2]
theorem rfl'_lines : ∀ (f : Nat) (l : List UInt8) (ls : List (List UInt8)) (p a : Nat), rfl' f l = some (ls, p, a) → (linesOf (l.take p)).map tcr = ls ∧ (l.take p).count 10 = ls.length
  | 0, _, _, _, _, h => by cases h
  | f + 1, l, ls, p, a, h => by
    unfold rfl' at h
    cases hf : fnl l with
    | none => rw [hf] at h; cases h
    | some i =>
      have hil := fnl_lt hf
      obtain ⟨hn1, hn2⟩ := fnl_no hf
      rw [hf] at h
      dsimp only at h
      split at h
      · injection h with h; injection h with h0 h; injection h with h1 h2
        subst h0 h1
        exact ⟨rfl, rfl⟩
      · obtain ⟨⟨ls', p', a'⟩, h1, h2⟩ := Option.map_eq_some_iff.1 h
        injection h2 with h3 h2; injection h2 with h4 h5
        dsimp only at h3 h4 h5
        have ih := rfl'_lines f _ _ _ _ h1
        have e : l.take p = l.take i ++ 10 :: (l.drop (i + 1)).take p' := by
          rw [← h4, show i + 1 + p' = i + (p' + 1) by omega, List.take_add, hn2]
          rfl
        rw [e, linesOf_line hn1, List.map_cons, ih.1, List.count_append, List.count_cons, ih.2, List.count_eq_zero.2 hn1, ← h3]
        refine ⟨rfl, ?_⟩
        simp
end Go.Proofs.YtabpgpbcnadgcaaGreatDoor
namespace Go.Proofs.YtabpgpbcnadgcaaGreatDoor
open Go.RowKit Go.Shelf TextNum
/-- a text cut at each c -/
def pcs (c : UInt8) : List UInt8 → List (List UInt8)
  | [] => [[]]
  | x :: r => if x = c then [] :: pcs c r else match pcs c r with
    | [] => [[x]]
    | h :: t => (x :: h) :: t
theorem pcs_ne (c : UInt8) : ∀ l : List UInt8, pcs c l ≠ []
  | [] => by simp [pcs]
  | x :: r => by
    unfold pcs
    split
    · simp
    · split <;> simp
theorem pcs_no {c : UInt8} : ∀ {l : List UInt8}, c ∉ l → pcs c l = [l]
  | [], _ => rfl
  | x :: r, h => by
    unfold pcs
    rw [if_neg (fun e => h (by simp [e])), pcs_no (fun e => h (by simp [e]))]
theorem pcs_cut {c : UInt8} : ∀ {a : List UInt8} (r : List UInt8), c ∉ a → pcs c (a ++ c :: r) = a :: pcs c r
  | [], r, _ => by
    show pcs c (c :: r) = _
    conv => lhs; unfold pcs
    rw [if_pos rfl]
  | x :: a, r, h => by
    show pcs c (x :: (a ++ c :: r)) = _
    conv => lhs; unfold pcs
    rw [if_neg (fun e => h (by simp [e])), pcs_cut r (fun e => h (by simp [e]))]
theorem cut_cases (c : UInt8) (l : List UInt8) : (c ∉ l ∧ Go.Lib.cut l [c] = (l, [], false)) ∨ ∃ a b, c ∉ a ∧ l = a ++ c :: b ∧ Go.Lib.cut l [c] = (a, b, true) := by
  have hi : Go.Lib.index l [c] = Go.Lib.indexByte l c := Go.Lib.index_one l c
  unfold Go.Lib.cut
  rw [hi]
  have hge := Go.Lib.indexByte_ge l c
  by_cases h : 0 ≤ Go.Lib.indexByte l c
  · right
    obtain ⟨o, ho⟩ := Int.eq_ofNat_of_zero_le h
    obtain ⟨h1, h2⟩ := Go.Lib.indexByte_some ho
    obtain ⟨hol, h1'⟩ := List.getElem?_eq_some_iff.1 h1
    refine ⟨l.take o, l.drop (o + 1), ?_, ?_, ?_⟩
    · intro hm
      obtain ⟨k, hk, e⟩ := List.getElem_of_mem hm
      have hk' : k < o := by rw [List.length_take] at hk; omega
      refine h2 k hk' ?_
      rw [List.getElem?_eq_getElem (by omega), ← e, List.getElem_take]
    · conv => lhs; rw [← List.take_append_drop o l, List.drop_eq_getElem_cons hol, h1']
    · rw [if_pos h, ho]
      simp only [Int.toNat_natCast, List.length_cons, List.length_nil]
  · left
    have h3 := Go.Lib.indexByte_none (l := l) (c := c) (by omega)
    refine ⟨?_, by rw [if_neg h]⟩
    intro hm
    obtain ⟨k, hk, e⟩ := List.getElem_of_mem hm
    exact h3 k (by rw [List.getElem?_eq_getElem hk, e])
theorem index_no {c : UInt8} {l : List UInt8} (h : c ∉ l) : Go.Lib.index l [c] = -1 := by
  rw [Go.Lib.index_one]
  have hge := Go.Lib.indexByte_ge l c
  by_cases h0 : 0 ≤ Go.Lib.indexByte l c
  · obtain ⟨o, ho⟩ := Int.eq_ofNat_of_zero_le h0
    obtain ⟨h1, _⟩ := Go.Lib.indexByte_some ho
    exact absurd (List.mem_of_getElem? h1) h
  · omega
theorem index_at {c : UInt8} {a b : List UInt8} (h : c ∉ a) : Go.Lib.index (a ++ c :: b) [c] = (a.length : Int) := by
  rw [Go.Lib.index_one]
  induction a with
  | nil => simp [Go.Lib.indexByte]
  | cons x a ih =>
    have hx : x ≠ c := fun e => h (by simp [e])
    rw [List.cons_append]
    unfold Go.Lib.indexByte
    rw [ih (fun e => h (by simp [e]))]
    have h1 : (x == c) = false := by simpa using hx
    rw [h1]
    have h2 : ((a.length : Int) == -1) = false := by rw [beq_eq_false_iff_ne]; omega
    rw [h2]
    simp
theorem splitK_pcs (c : UInt8) : ∀ (k : Nat) (l : List UInt8), l.count c ≤ k → Go.Lib.splitK [c] 0 k l = pcs c l
  | 0, l, h => by
    have hn : c ∉ l := List.count_eq_zero.1 (by omega)
    rw [pcs_no hn]
    rfl
  | k + 1, l, h => by
    unfold Go.Lib.splitK
    rcases cut_cases c l with ⟨hn, _⟩ | ⟨a, b, hn, rfl, _⟩
    · rw [index_no hn, pcs_no hn]
      rfl
    · rw [index_at hn, pcs_cut b hn]
      have h2 : ((a.length : Int) == -1) = false := by rw [beq_eq_false_iff_ne]; omega
      rw [h2]
      rw [List.count_append, List.count_cons] at h
      simp only [beq_self_eq_true, if_true] at h
      have e1 : (a ++ c :: b).take a.length = a := by simp
      have e2 : (a ++ c :: b).drop (a.length + 1) = b := by rw [List.drop_append]; simp
      simp only [Bool.false_eq_true, if_false, Int.toNat_natCast, Nat.add_zero, List.length_cons, List.length_nil, Nat.zero_add]
      rw [e1, e2, splitK_pcs c k b (by omega)]
theorem count_one (c : UInt8) : ∀ (f : Nat) (l : List UInt8), l.length < f → Go.Lib.countFrom [c] f l = l.count c
  | 0, _, h => absurd h (by omega)
  | f + 1, l, h => by
    unfold Go.Lib.countFrom
    rcases cut_cases c l with ⟨hn, _⟩ | ⟨a, b, hn, rfl, _⟩
    · rw [index_no hn, List.count_eq_zero.2 hn]
      rfl
    · rw [index_at hn]
      have h2 : ((a.length : Int) == -1) = false := by rw [beq_eq_false_iff_ne]; omega
      rw [h2]
      have e2 : (a ++ c :: b).drop (a.length + 1) = b := by rw [List.drop_append]; simp
      simp only [Bool.false_eq_true, if_false, Int.toNat_natCast, List.length_cons, List.length_nil, Nat.zero_add]
      rw [e2, count_one c f b (by rw [List.length_append, List.length_cons] at h; omega), List.count_append, List.count_cons, List.count_eq_zero.2 hn]
      simp
      omega
theorem pcs_small (c : UInt8) : ∀ (l : List UInt8), ∀ x ∈ pcs c l, x.length ≤ l.length
  | [], x, h => by simp [pcs] at h; simp [h]
  | y :: r, x, h => by
    unfold pcs at h
    split at h
    · rcases List.mem_cons.1 h with rfl | h
      · exact Nat.zero_le _
      · have := pcs_small c r x h; simp only [List.length_cons]; omega
    · have ih := pcs_small c r
      cases hp : pcs c r with
      | nil => rw [hp] at h; simp at h; simp [h]
      | cons z t =>
        rw [hp] at h ih
        rcases List.mem_cons.1 h with rfl | h
        · have := ih z (by simp); simp only [List.length_cons]; omega
        · have := ih x (by simp [h]); simp only [List.length_cons]; omega
theorem pcs_len (c : UInt8) : ∀ (l : List UInt8), (pcs c l).length ≤ l.length + 1
  | [] => by simp [pcs]
  | y :: r => by
    have ih := pcs_len c r
    unfold pcs
    split
    · simp only [List.length_cons]; omega
    · cases hp : pcs c r with
      | nil => simp
      | cons z t => rw [hp] at ih; simp only [List.length_cons] at *; omega
end Go.Proofs.YtabpgpbcnadgcaaGreatDoor
namespace Go.Proofs.YtabpgpbcnadgcaaGreatDoor
open Go.RowKit TextNum
/-- fields in memory of one's own -/
abbrev RfO (w : World) (N : Nat) (a : Option Addr) (fs : List FD) (c : Nat) : Prop := w.ownsRow N 102 2 (.slice a fs.length c) fs.length (fdc fs)
theorem RfO.fdl {w : World} {N : Nat} {a : Option Addr} {fs : List FD} {c : Nat} (h : RfO w N a fs c) : FdL w a fs c := by
  refine ⟨?_, fun i hi => ?_⟩
  · rcases h.2 with ⟨_, h0⟩ | ⟨g, cap, cur, e, _, _, hc, _⟩
    · omega
    · injection e with _ _ e3
      omega
  · rcases h.2 with ⟨_, h0⟩ | ⟨g, cap, cur, e, _, _, hc, _⟩
    · omega
    · injection e with e1 _ e3
      subst e1 e3
      have hc := World.ownsRow.cells h rfl
      have h1 := hc (i * 2) _ (fdc_get fs hi).1
      have h2 := hc (i * 2 + 1) _ (fdc_get fs hi).2
      rw [Addr.add_lit] at h1 h2
      exact ⟨g, 0, rfl, h1, h2⟩
theorem infoRf2 : (Tryz.prog.info? 102).map (·.size) = some 2 := by kernel_rfl
theorem Tryz.infoRf : (Tryz.prog.info? 102).map (fun i => (i.zero, i.size, i.bytes)) = some (some (.agg #[.string ⟨#[]⟩, .string ⟨#[]⟩]), 2, 32) := by kernel_rfl
theorem exec_idxRf {o : Oper} {ρ : Operand → Value} {x y : Operand} {w : World} {b off n c : Nat} (i : Nat) (hi : i < n) (ho : o.op = .indexAddr 54 x y) (hx : ρ x = .slice (some ⟨b, off, none⟩) n c) (hy : ρ y = .int .i64 (i : Int)) : (execOp ρ o).run Tryz.prog w = .ok (.value (.pointer (some ⟨b, off + i * 2, none⟩))) w := by
  have hi' : (i : Int) < (n : Int) := by omega
  unfold execOp
  simp only [ho, hx, hy]
  go_simp
/-- one field is appended -/
theorem wpList_appRf {w : World} {N q : Nat} {ops : Array Oper} {rest : List Oper} {o : Oper} {a : Act} {Q : Exit → Act → World → Prop} (hgd : o.guard = none) (x y : Operand)
    (ho : o.op = .call { callee := .builtin .append, args := #[x, y], argTypes := #[54, 54] }) (ax : Option Addr) (cx : Nat) (fs : List FD) (f : FD) (hq : fs.length = q) (hx : a.eval x = .slice ax q cx) (hy : a.eval y = .slice (some ⟨w.heap.size, 0, none⟩) 1 1)
    (hR : RfO w N ax fs cx) (hNw : N ≤ w.heap.size) (hql : q ≤ 1099511627776)
    (K : ∀ ax2 cx2 w', RfO w' N ax2 (fs ++ [f]) cx2 → (∀ W, Up W w → W.heap.size ≤ N → Up W w') → w.grownBy w' (Value.slice ax q cx).ownBlock → wpList Tryz.prog ops Q rest (a.put o.dst (.slice ax2 (q + 1) cx2)) w') :
    wpList Tryz.prog ops Q (o :: rest) a (w.alloc (.cells #[.string f.n, .string f.v] 102)) := by
  subst hq
  obtain ⟨i1, hi1, hz0, hz1, hz2⟩ := info_parts Tryz.infoRf
  have HUx := (Up.refl w).alloc (.cells #[.string f.n, .string f.v] 102)
  have hnu := ow_up hR HUx
  refine wpList_append_own _ hgd x y 54 ho N 102 i1 (.agg #[.string ⟨#[]⟩, .string ⟨#[]⟩]) 2 32 Tryz.underlying54 hi1 hz0 hz1 hz2 rfl (by omega) (.slice ax fs.length cx) fs.length _ hx hnu ⟨w.heap.size, 0, none⟩ 1 1 [.string f.n, .string f.v] hy rfl ?_ ?_ (by simp only [maxLen]; omega) (by omega) (Nat.le_trans hNw HUx.size) ?_
  · intro j u hu
    rw [Addr.add_lit]
    exact At.cell (at_new w 102 [.string f.n, .string f.v]) (i := 0 + j) (by rw [Nat.zero_add]; exact hu)
  · intro u hu
    simp only [List.mem_cons, List.not_mem_nil, or_false] at hu
    rcases hu with rfl | rfl <;> rfl
  intro v8 w8 o8 g8 _
  obtain ⟨ax2, cx2, rfl⟩ : ∃ ax2 cx2, v8 = .slice ax2 (fs.length + 1) cx2 := by
    rcases o8.2 with ⟨_, h0⟩ | ⟨g, cap, cur, e1, _⟩
    · omega
    · exact ⟨_, cap, e1⟩
  refine K ax2 cx2 w8 ?_ (fun W hU hW => up_grownBy (hU.trans HUx) g8 (fun k hk => Nat.le_trans hW (World.ownsRow.lt hR k hk).1)) (up_grown HUx g8)
  show w8.ownsRow N 102 2 (.slice ax2 (fs ++ [f]).length cx2) (fs ++ [f]).length (fdc (fs ++ [f]))
  rw [List.length_append, fdc_snoc]
  exact o8
end Go.Proofs.YtabpgpbcnadgcaaGreatDoor
namespace Go.Proofs.YtabpgpbcnadgcaaGreatDoor
open Go.RowKit TextNum
def rlt (c : UInt8) : Bool := (decide (97 ≤ c.toNat) && decide (c.toNat ≤ 122)) || (decide (65 ≤ c.toNat) && decide (c.toNat ≤ 90))
def rtk : ByteArray := ⟨#[33, 35, 36, 37, 38, 39, 42, 43, 45, 46, 94, 95, 124, 126]⟩
theorem tkc_ref (x : UInt8) : tkc x = (rlt x || isD x || rtk.data.toList.contains x || x == 96) := by
  have h : ∀ n : Nat, n < 256 → tkc (UInt8.ofNat n) = (rlt (UInt8.ofNat n) || isD (UInt8.ofNat n) || rtk.data.toList.contains (UInt8.ofNat n) || UInt8.ofNat n == 96) := by decide +kernel
  have h1 := h x.toNat x.toNat_lt
  rw [UInt8.ofNat_toNat] at h1
  exact h1
set_option maxRecDepth 100000 in
theorem Rdigit_walk (c : UInt8) (w : World) : Calls Tryz.prog 93 #[vb c] w fun e w' => e = .returned (.bool (isD c)) ∧ w' = w := by
  have hc := c.toNat_lt
  by_cases hge48 : 48 ≤ c.toNat
  · have zhge48 : (48 : Int) ≤ (c.toNat : Int) := by omega
    by_cases hle57 : c.toNat ≤ 57
    · have zhle57 : (c.toNat : Int) ≤ 57 := by omega
      have e : isD c = true := by unfold isD; simp [*]
      rw [e]
      clear e
      go_enter Tryz.func93, Tryz.ntmps93
      go_wp2
      go_ret
      exact ⟨rfl, rfl⟩
    · have zhle57 : ¬ (c.toNat : Int) ≤ 57 := by omega
      have e : isD c = false := by unfold isD; simp [*]
      rw [e]
      clear e
      go_enter Tryz.func93, Tryz.ntmps93
      go_wp2
      go_ret
      exact ⟨rfl, rfl⟩
  · have zhge48 : ¬ (48 : Int) ≤ (c.toNat : Int) := by omega
    have e : isD c = false := by unfold isD; simp [*]
    rw [e]
    clear e
    go_enter Tryz.func93, Tryz.ntmps93
    go_wp2
    go_ret
    exact ⟨rfl, rfl⟩
set_option maxRecDepth 100000 in
theorem Rletter_walk (c : UInt8) (w : World) : Calls Tryz.prog 92 #[vb c] w fun e w' => e = .returned (.bool (rlt c)) ∧ w' = w := by
  have hc := c.toNat_lt
  by_cases hge97 : 97 ≤ c.toNat
  · have zhge97 : (97 : Int) ≤ (c.toNat : Int) := by omega
    by_cases hle122 : c.toNat ≤ 122
    · have zhle122 : (c.toNat : Int) ≤ 122 := by omega
      have e : rlt c = true := by unfold rlt; simp [*]
      rw [e]
      clear e
      go_enter Tryz.func92, Tryz.ntmps92
      go_wp2
      go_ret
      exact ⟨rfl, rfl⟩
    · have zhle122 : ¬ (c.toNat : Int) ≤ 122 := by omega
      by_cases hge65 : 65 ≤ c.toNat
      · have zhge65 : (65 : Int) ≤ (c.toNat : Int) := by omega
        by_cases hle90 : c.toNat ≤ 90
        · have zhle90 : (c.toNat : Int) ≤ 90 := by omega
          have e : rlt c = true := by unfold rlt; simp [*]
          rw [e]
          clear e
          go_enter Tryz.func92, Tryz.ntmps92
          go_wp2
          go_ret
          exact ⟨rfl, rfl⟩
        · have zhle90 : ¬ (c.toNat : Int) ≤ 90 := by omega
          have e : rlt c = false := by unfold rlt; simp [*]
          rw [e]
          clear e
          go_enter Tryz.func92, Tryz.ntmps92
          go_wp2
          go_ret
          exact ⟨rfl, rfl⟩
      · have zhge65 : ¬ (65 : Int) ≤ (c.toNat : Int) := by omega
        have e : rlt c = false := by unfold rlt; simp [*]
        rw [e]
        clear e
        go_enter Tryz.func92, Tryz.ntmps92
        go_wp2
        go_ret
        exact ⟨rfl, rfl⟩
  · have zhge97 : ¬ (97 : Int) ≤ (c.toNat : Int) := by omega
    by_cases hge65 : 65 ≤ c.toNat
    · have zhge65 : (65 : Int) ≤ (c.toNat : Int) := by omega
      by_cases hle90 : c.toNat ≤ 90
      · have zhle90 : (c.toNat : Int) ≤ 90 := by omega
        have e : rlt c = true := by unfold rlt; simp [*]
        rw [e]
        clear e
        go_enter Tryz.func92, Tryz.ntmps92
        go_wp2
        go_ret
        exact ⟨rfl, rfl⟩
      · have zhle90 : ¬ (c.toNat : Int) ≤ 90 := by omega
        have e : rlt c = false := by unfold rlt; simp [*]
        rw [e]
        clear e
        go_enter Tryz.func92, Tryz.ntmps92
        go_wp2
        go_ret
        exact ⟨rfl, rfl⟩
    · have zhge65 : ¬ (65 : Int) ≤ (c.toNat : Int) := by omega
      have e : rlt c = false := by unfold rlt; simp [*]
      rw [e]
      clear e
      go_enter Tryz.func92, Tryz.ntmps92
      go_wp2
      go_ret
      exact ⟨rfl, rfl⟩
set_option maxRecDepth 100000 in
set_option maxHeartbeats 1000000 in
theorem Ramong_walk (s : ByteArray) (c : UInt8) (hs : s.size ≤ 1048576) (w : World) : Calls Tryz.prog 94 #[.string s, vb c] w fun e w' => e = .returned (.bool (s.data.toList.contains c)) ∧ w' = w := by
  have HS := Hid.of (show s.size = s.data.toList.length from Go.Lib.size_eq s)
  obtain ⟨r, hr⟩ : ∃ r, s.data.toList.contains c = r := ⟨_, rfl⟩
  have HR := Hid.of hr
  rw [hr]
  clear hr
  go_enter Tryz.func94, Tryz.ntmps94
  go_wp2
  go_loopw [5] (fun v5 wr => ∃ i : Nat, v5 = .int .i64 (i : Int) ∧ i ≤ s.size ∧ Hid (wr = w ∧ c ∉ s.data.toList.take i)) (fun v5 _ => s.size - (intOf v5).toNat)
  case atStart => exact ⟨0, rfl, Nat.zero_le _, Hid.of ⟨rfl, by simp⟩⟩
  case round =>
    obtain ⟨i, rfl, hi, hU⟩ := hrel
    have HU := Hid.of hU.out
    clear hU
    by_cases hil : i < s.size
    · have hilz : (i : Int) < (s.size : Int) := by omega
      have hg := sget' s i hil
      have hii : i < s.data.toList.length := by rw [← HS.out]; exact hil
      have HQ := Hid.of (List.take_succ_eq_append_getElem hii)
      have HM := Hid.of (List.getElem_mem hii)
      generalize s.data.toList[i]'hii = x at *
      clear hii
      cases hx : ((x.toNat : Int) == (c.toNat : Int)) with
      | true =>
        have HE := Hid.of (show r = true by
          have h1 : x.toNat = c.toNat := by have := eq_of_beq hx; omega
          rw [← HR.out, ← UInt8.toNat_inj.1 h1]
          exact List.contains_iff_mem.2 HM.out)
        go_wp2
        go_ret
        rw [HE.out]
        exact ⟨rfl, HU.out.1⟩
      | false =>
        have HN := Hid.of (show c ∉ s.data.toList.take (i + 1) by
          rw [HQ.out, List.mem_append, List.mem_singleton]
          rintro (h | h)
          · exact HU.out.2 h
          · rw [h] at hx; simp at hx)
        go_wp2
        go_roundw
        all_goals first
          | exact ⟨i + 1, by go_num, by omega, Hid.of ⟨HU.out.1, HN.out⟩⟩
          | (simp [intOf]; omega)
    · have hilz : ¬ (i : Int) < (s.size : Int) := by omega
      have HE := Hid.of (show r = false by
        have h1 := HU.out.2
        rw [List.take_of_length_le (by rw [← HS.out]; omega)] at h1
        rw [← HR.out, Bool.eq_false_iff]
        intro h
        exact h1 (List.contains_iff_mem.1 h))
      go_wp2
      go_ret
      rw [HE.out]
      exact ⟨rfl, HU.out.1⟩
set_option maxRecDepth 100000 in
set_option maxHeartbeats 1000000 in
theorem Rvisible_walk (s : ByteArray) (hs : s.size ≤ 1099511627776) (w : World) : Calls Tryz.prog 47 #[.string s] w fun e w' => e = .returned (.bool (tgt s.data.toList)) ∧ Up w w' := by
  have HS := Hid.of (show s.size = s.data.toList.length from Go.Lib.size_eq s)
  obtain ⟨r, hr⟩ : ∃ r, tgt s.data.toList = r := ⟨_, rfl⟩
  have HR := Hid.of hr
  rw [hr]
  clear hr
  go_enter Tryz.func47, Tryz.ntmps47
  go_wp2
  go_loopw [3] (fun v3 wr => ∃ i : Nat, v3 = .int .i64 (i : Int) ∧ i ≤ s.size ∧ Hid (Up w wr ∧ (s.data.toList.take i).all vis = true)) (fun v3 _ => s.size - (intOf v3).toNat)
  case atStart => exact ⟨0, rfl, Nat.zero_le _, Hid.of ⟨Up.refl _, rfl⟩⟩
  case round =>
    obtain ⟨i, rfl, hi, hU⟩ := hrel
    have HU := Hid.of hU.out
    clear hU
    by_cases hil : i < s.size
    · have hilz : (i : Int) < (s.size : Int) := by omega
      have hg := sget' s i hil
      have HQ := Hid.of (vis_take (l := s.data.toList) (i := i) (by rw [← HS.out]; exact hil))
      have HF := Hid.of (show ∀ x, s.data.toList[i]'(by rw [← HS.out]; exact hil) = x → vis x = false → r = false from fun x hx hb => by
        rw [← HR.out]
        unfold tgt
        have : s.data.toList.all vis = false := List.all_eq_false.2 ⟨_, List.getElem_mem (by rw [← HS.out]; exact hil), by rw [hx, hb]; simp⟩
        rw [this]; simp)
      generalize s.data.toList[i]'(by rw [← HS.out]; exact hil) = x at *
      replace HF := Hid.of (HF.out x rfl)
      have hx := x.toNat_lt
      by_cases h1 : x.toNat < 33
      · have z1 : (x.toNat : Int) < 33 := by omega
        have HE := Hid.of (HF.out (show vis x = false by unfold vis; rw [decide_eq_false (show ¬ 32 < x.toNat by omega)]; rfl))
        go_wp2
        go_ret
        rw [HE.out]
        exact ⟨rfl, HU.out.1⟩
      · have z1 : ¬ (x.toNat : Int) < 33 := by omega
        by_cases h2 : 126 < x.toNat
        · have z2 : (126 : Int) < (x.toNat : Int) := by omega
          have HE := Hid.of (HF.out (show vis x = false by unfold vis; rw [decide_eq_false (show ¬ x.toNat < 127 by omega), Bool.and_false]))
          go_wp2
          go_ret
          rw [HE.out]
          exact ⟨rfl, HU.out.1⟩
        · have z2 : ¬ (126 : Int) < (x.toNat : Int) := by omega
          have HY := Hid.of (show vis x = true by unfold vis; rw [decide_eq_true (show 32 < x.toNat by omega), decide_eq_true (show x.toNat < 127 by omega)]; rfl)
          go_wp2
          go_roundw
          all_goals first
            | exact ⟨i + 1, by go_num, by omega, Hid.of ⟨HU.out.1, by rw [HQ.out, HU.out.2, HY.out]; rfl⟩⟩
            | (simp [intOf]; omega)
    · have hilz : ¬ (i : Int) < (s.size : Int) := by omega
      have hal : s.data.toList.all vis = true := by
        have h1 := HU.out.2
        rw [List.take_of_length_le (by rw [← HS.out]; omega)] at h1
        exact h1
      have HT := Hid.of (show r = !(s.toList.isEmpty) by
        rw [← HR.out, Go.Lib.toList_data]
        unfold tgt
        rw [hal]
        simp)
      clear hal
      cases hb : s.toList.isEmpty with
      | true =>
        rw [hb] at HT
        go_wp2
        go_ret
        rw [HT.out]
        exact ⟨rfl, HU.out.1⟩
      | false =>
        rw [hb] at HT
        go_wp2
        go_ret
        rw [HT.out]
        exact ⟨rfl, HU.out.1⟩
set_option maxRecDepth 100000 in
set_option maxHeartbeats 1000000 in
theorem Rvalued_walk (s : ByteArray) (hs : s.size ≤ 1099511627776) (w : World) : Calls Tryz.prog 95 #[.string s] w fun e w' => e = .returned (.bool (vlu s.data.toList)) ∧ Up w w' := by
  have HS := Hid.of (show s.size = s.data.toList.length from Go.Lib.size_eq s)
  obtain ⟨r, hr⟩ : ∃ r, vlu s.data.toList = r := ⟨_, rfl⟩
  have HR := Hid.of hr
  rw [hr]
  clear hr
  go_enter Tryz.func95, Tryz.ntmps95
  go_wp2
  go_loopw [3] (fun v3 wr => ∃ i : Nat, v3 = .int .i64 (i : Int) ∧ i ≤ s.size ∧ Hid (Up w wr ∧ (s.data.toList.take i).all vlc = true)) (fun v3 _ => s.size - (intOf v3).toNat)
  case atStart => exact ⟨0, rfl, Nat.zero_le _, Hid.of ⟨Up.refl _, rfl⟩⟩
  case round =>
    obtain ⟨i, rfl, hi, hU⟩ := hrel
    have HU := Hid.of hU.out
    clear hU
    by_cases hil : i < s.size
    · have hilz : (i : Int) < (s.size : Int) := by omega
      have hg := sget' s i hil
      have HQ := Hid.of (vlc_take (l := s.data.toList) (i := i) (by rw [← HS.out]; exact hil))
      have HF := Hid.of (show ∀ x, s.data.toList[i]'(by rw [← HS.out]; exact hil) = x → vlc x = false → r = false from fun x hx hb => by
        rw [← HR.out]
        unfold vlu
        have : s.data.toList.all vlc = false := List.all_eq_false.2 ⟨_, List.getElem_mem (by rw [← HS.out]; exact hil), by rw [hx, hb]; simp⟩
        rw [this])
      generalize s.data.toList[i]'(by rw [← HS.out]; exact hil) = x at *
      replace HF := Hid.of (HF.out x rfl)
      have hx := x.toNat_lt
      by_cases h1 : x.toNat = 9
      · have z1 : ((x.toNat : Int) != 9) = false := by rw [h1]; rfl
        have h1b : x = 9 := UInt8.toNat_inj.1 h1
        have HY := Hid.of (show vlc x = true by rw [h1b]; decide)
        clear h1b h1
        go_wp2
        go_roundw
        all_goals first
          | exact ⟨i + 1, by go_num, by omega, Hid.of ⟨HU.out.1, by rw [HQ.out, HU.out.2, HY.out]; rfl⟩⟩
          | (simp [intOf]; omega)
      · have z1 : ((x.toNat : Int) != 9) = true := by rw [bne_iff_ne]; omega
        have h1b : (x == 9) = false := by rw [beq_eq_false_iff_ne]; intro e; apply h1; rw [e]; rfl
        by_cases h2 : x.toNat < 32
        · have z2 : (x.toNat : Int) < 32 := by omega
          have HE := Hid.of (HF.out (show vlc x = false by unfold vlc ctl; rw [h1b, decide_eq_true h2]; rfl))
          go_wp2
          go_ret
          rw [HE.out]
          exact ⟨rfl, HU.out.1⟩
        · have z2 : ¬ (x.toNat : Int) < 32 := by omega
          by_cases h3 : x.toNat = 127
          · have z3 : ((x.toNat : Int) == 127) = true := by rw [h3]; rfl
            have HE := Hid.of (HF.out (show vlc x = false by unfold vlc ctl; rw [h1b, decide_eq_true h3, Bool.or_true]; rfl))
            go_wp2
            go_ret
            rw [HE.out]
            exact ⟨rfl, HU.out.1⟩
          · have z3 : ((x.toNat : Int) == 127) = false := by rw [beq_eq_false_iff_ne]; omega
            have HY := Hid.of (show vlc x = true by unfold vlc ctl; rw [decide_eq_false h2, decide_eq_false h3]; rfl)
            go_wp2
            go_roundw
            all_goals first
              | exact ⟨i + 1, by go_num, by omega, Hid.of ⟨HU.out.1, by rw [HQ.out, HU.out.2, HY.out]; rfl⟩⟩
              | (simp [intOf]; omega)
    · have hilz : ¬ (i : Int) < (s.size : Int) := by omega
      have hal : s.data.toList.all vlc = true := by
        have h1 := HU.out.2
        rw [List.take_of_length_le (by rw [← HS.out]; omega)] at h1
        exact h1
      have HT := Hid.of (show r = true by
        rw [← HR.out]
        unfold vlu
        exact hal)
      clear hal
      go_wp2
      go_ret
      rw [HT.out]
      exact ⟨rfl, HU.out.1⟩
set_option maxRecDepth 100000 in
set_option maxHeartbeats 1000000 in
theorem Rtoken_walk (s : ByteArray) (hs : s.size ≤ 1099511627776) (w : World) : Calls Tryz.prog 46 #[.string s] w fun e w' => e = .returned (.bool (tok s.data.toList)) ∧ Up w w' := by
  have HS := Hid.of (show s.size = s.data.toList.length from Go.Lib.size_eq s)
  obtain ⟨r, hr⟩ : ∃ r, tok s.data.toList = r := ⟨_, rfl⟩
  have HR := Hid.of hr
  rw [hr]
  clear hr
  go_enter Tryz.func46, Tryz.ntmps46
  go_wp2
  go_loopw [3] (fun v3 wr => ∃ i : Nat, v3 = .int .i64 (i : Int) ∧ i ≤ s.size ∧ Hid (Up w wr ∧ (s.data.toList.take i).all tkc = true)) (fun v3 _ => s.size - (intOf v3).toNat)
  case atStart => exact ⟨0, rfl, Nat.zero_le _, Hid.of ⟨Up.refl _, rfl⟩⟩
  case round =>
    obtain ⟨i, rfl, hi, hU⟩ := hrel
    have HU := Hid.of hU.out
    clear hU
    by_cases hil : i < s.size
    · have hilz : (i : Int) < (s.size : Int) := by omega
      have hg := sget' s i hil
      have HQ := Hid.of (tkc_take (l := s.data.toList) (i := i) (by rw [← HS.out]; exact hil))
      have HF := Hid.of (show ∀ x, s.data.toList[i]'(by rw [← HS.out]; exact hil) = x → tkc x = false → r = false from fun x hx hb => by
        rw [← HR.out]
        unfold tok
        have : s.data.toList.all tkc = false := List.all_eq_false.2 ⟨_, List.getElem_mem (by rw [← HS.out]; exact hil), by rw [hx, hb]; simp⟩
        rw [this]; simp)
      generalize s.data.toList[i]'(by rw [← HS.out]; exact hil) = x at *
      replace HF := Hid.of (HF.out x rfl)
      go_wp2_with fail
      refine (Rletter_walk x wr).mono ?_
      rintro e w9 ⟨rfl, h9⟩
      obtain rfl := h9.symm
      clear h9
      dsimp only
      cases h1 : rlt x with
      | true =>
        have HY := Hid.of (show tkc x = true by rw [tkc_ref, h1]; rfl)
        go_wp2
        go_roundw
        all_goals first
          | exact ⟨i + 1, by go_num, by omega, Hid.of ⟨HU.out.1, by rw [HQ.out, HU.out.2, HY.out]; rfl⟩⟩
          | (simp [intOf]; omega)
      | false =>
        go_wp2_with fail
        refine (Rdigit_walk x wr).mono ?_
        rintro e w9 ⟨rfl, h9⟩
        obtain rfl := h9.symm
        clear h9
        dsimp only
        cases h2 : isD x with
        | true =>
          have HY := Hid.of (show tkc x = true by rw [tkc_ref, h1, h2]; rfl)
          go_wp2
          go_roundw
          all_goals first
            | exact ⟨i + 1, by go_num, by omega, Hid.of ⟨HU.out.1, by rw [HQ.out, HU.out.2, HY.out]; rfl⟩⟩
            | (simp [intOf]; omega)
        | false =>
          go_wp2_with fail
          refine (Ramong_walk rtk x (by decide) wr).mono ?_
          rintro e w9 ⟨rfl, h9⟩
          obtain rfl := h9.symm
          clear h9
          dsimp only
          cases h3 : rtk.data.toList.contains x with
          | true =>
            have HY := Hid.of (show tkc x = true by rw [tkc_ref, h1, h2, h3]; rfl)
            go_wp2
            go_roundw
            all_goals first
              | exact ⟨i + 1, by go_num, by omega, Hid.of ⟨HU.out.1, by rw [HQ.out, HU.out.2, HY.out]; rfl⟩⟩
              | (simp [intOf]; omega)
          | false =>
            cases h4 : ((x.toNat : Int) == 96) with
            | true =>
              have z4 : ((x.toNat : Int) != 96) = false := by rw [bne, h4]; rfl
              have h5 : (x == 96) = true := by
                have h6 : x.toNat = 96 := by have := eq_of_beq h4; omega
                rw [beq_iff_eq]
                exact UInt8.toNat_inj.1 h6
              clear h4
              have HY := Hid.of (show tkc x = true by rw [tkc_ref, h1, h2, h3, h5]; rfl)
              go_wp2
              go_roundw
              all_goals first
                | exact ⟨i + 1, by go_num, by omega, Hid.of ⟨HU.out.1, by rw [HQ.out, HU.out.2, HY.out]; rfl⟩⟩
                | (simp [intOf]; omega)
            | false =>
              have z4 : ((x.toNat : Int) != 96) = true := by rw [bne, h4]; rfl
              have h5 : (x == 96) = false := by
                rw [beq_eq_false_iff_ne]
                intro e
                rw [e] at h4
                exact absurd h4 (by decide)
              clear h4
              have HE := Hid.of (HF.out (show tkc x = false by rw [tkc_ref, h1, h2, h3, h5]; rfl))
              go_wp2
              go_ret
              rw [HE.out]
              exact ⟨rfl, HU.out.1⟩
    · have hilz : ¬ (i : Int) < (s.size : Int) := by omega
      have hal : s.data.toList.all tkc = true := by
        have h1 := HU.out.2
        rw [List.take_of_length_le (by rw [← HS.out]; omega)] at h1
        exact h1
      have HT := Hid.of (show r = !(s.toList.isEmpty) by
        rw [← HR.out, Go.Lib.toList_data]
        unfold tok
        rw [hal]
        simp)
      clear hal
      cases hb : s.toList.isEmpty with
      | true =>
        rw [hb] at HT
        go_wp2
        go_ret
        rw [HT.out]
        exact ⟨rfl, HU.out.1⟩
      | false =>
        rw [hb] at HT
        go_wp2
        go_ret
        rw [HT.out]
        exact ⟨rfl, HU.out.1⟩
end Go.Proofs.YtabpgpbcnadgcaaGreatDoor
namespace Go.Proofs.YtabpgpbcnadgcaaGreatDoor
open Go.RowKit Go.Shelf TextNum
theorem result_cell_tmp2 {P : Program} {fn : Func} {q q2 q3 : Tmp} {T : TypeId} (h : fn.results = #[.cell q T, .tmp q2, .tmp q3]) (tmps : Array Value) (w : World) (b : Nat) (cs : List Value) (v v3 : Value) {d : TypeDesc}
    (hp : tmps.getD q undef = .pointer (some ⟨b, 0, none⟩)) (hv : tmps.getD q2 undef = v) (hv3 : tmps.getD q3 undef = v3) (hc : w.rangeAt b 0 cs) (hu : P.underlying T = some d) (hd : d.isRow = true) (hi : (P.info? T).map (·.size) = some cs.length) : (results fn tmps).run P w = .ok (.tuple #[.agg cs.toArray, v, v3]) w := by
  have hp' : tmps[q]?.getD undef = .pointer (some ⟨b, 0, none⟩) := by simpa using hp
  have hv' : tmps[q2]?.getD undef = v := by simpa using hv
  have hv3' : tmps[q3]?.getD undef = v3 := by simpa using hv3
  simp [results, h, hp', hv', hv3', asAddr, run_loadVar_mid w b 0 T cs _ hc hu hd hi]
theorem er_neq (ad : Nat → Addr) (k : Nat) : ∀ w, (binOp .neq 106 (erV ad k) .nilIface).run Tryz.prog w = .ok (.bool true) w := by
  intro w
  unfold erV
  split <;> kernel_rfl
theorem er_grd (ad : Nat → Addr) (k : Nat) : ∀ x y w, (eqGuard .neq 106 x y (erV ad k) .nilIface).run Tryz.prog w = .ok () w := by
  intro x y w
  unfold erV
  split <;> kernel_rfl
theorem exec_load6 {o : Oper} {ρ : Operand → Value} {x : Operand} {w : World} {b : Nat} {cs : List Value} (ho : o.op = .load 48 x) (hx : ρ x = .pointer (some ⟨b, 0, none⟩)) (h : w.rangeAt b 0 cs) (hl : (Tryz.prog.info? 48).map (·.size) = some cs.length := by kernel_rfl) : (execOp ρ o).run Tryz.prog w = .ok (.value (.agg cs.toArray)) w := by
  unfold execOp
  simp only [ho, hx]
  have := run_loadAt_mid (P := Tryz.prog) w b 0 48 cs _ h Tryz.underlying48 rfl hl
  simp [this]
theorem Sb.shape {w : World} {v : Value} {ds : List UInt8} (h : Sb w v ds) : ∃ a n c, v = .slice a n c := by
  obtain ⟨a, c, e, _⟩ := h
  exact ⟨a, _, c, e⟩
theorem lines_small (l : List UInt8) : ∀ x ∈ linesOf l, x.length ≤ l.length := by
  have key : ∀ (f : Nat) (l : List UInt8), ∀ x ∈ lns f l, x.length ≤ l.length := by
    intro f
    induction f with
    | zero => intro l x hx; cases hx
    | succ f ih =>
      intro l x hx
      unfold lns at hx
      split at hx
      · cases hx
      · rename_i hne
        simp only [List.mem_cons] at hx
        rcases hx with rfl | hx
        · exact (List.takeWhile_sublist _).length_le
        · have := ih _ x hx
          have := tail_lt hne
          omega
  exact key _ l
theorem rdf_small {l : List UInt8} {fs : List FD} (h : rdf l = .ok fs) : fs.length ≤ l.length ∧ ∀ f ∈ fs, f.n.size ≤ l.length ∧ f.v.size ≤ l.length := by
  unfold rdf at h
  split at h
  · cases h
  · split at h
    · injection h with h
      subst h
      refine ⟨by rw [List.length_map]; exact lines_len l, fun f hf => ?_⟩
      obtain ⟨x, hx, rfl⟩ := List.mem_map.1 hf
      have h1 := lines_small l x hx
      have h2 := tcr_len x
      have h3 := c_len 58 (tcr x)
      have h4 := trm_len (c2 58 (tcr x))
      unfold fln
      rw [str_len, str_len]
      omega
    · cases h
/-- all that the parser reads -/
structure GW (w : World) (ad : Nat → Addr) : Prop where
  ge : GE w ad
  gn : GN w
  mt : w.rangeAt 14 0 mtC
  kd : w.rangeAt 13 0 kdC
  gp : GP w
  gm : GM w
theorem GW.up {w w' : World} {ad : Nat → Addr} (h : GW w ad) (k : Up w w') : GW w' ad := ⟨h.ge.up k, h.gn.up k, range_up h.mt k, range_up h.kd k, h.gp.up k, h.gm.up k⟩
/-- a request but for its body -/
structure Rq where
  m : List UInt8
  t : List UInt8
  mi : Int
  fs : List FD
/-- what the head of a request tells -/
def rqg (st fl : List UInt8) : Er (Rq × Int × Nat) := match rql st with
  | .error e => .error e
  | .ok (m, t, mi) => match rdf fl with
    | .error e => .error e
    | .ok fs => match ckh fs mi with
      | some e => .error e
      | none => match frm fs mi 0 with
        | .error e => .error e
        | .ok (way, len) => .ok (⟨m, t, mi, fs⟩, way, len)
def rqP (l : List UInt8) : Er ((Rq × List UInt8) × Nat) := msg 9 rqg (fun x _ b => (x, b)) l
def rqV (x : Rq) (a : Option Addr) (c : Nat) (v : Value) : Value := .agg #[vs x.m, vs x.t, .int .i64 x.mi, .slice a x.fs.length c, v, .bool (cls (x.mi == 0) x.fs)]
theorem rqV_eq {m t : List UInt8} {mi : Int} {fs : List FD} {a : Option Addr} {c nf : Nat} {v : Value} {cl : Bool} (h1 : fs.length = nf) (h2 : cls (mi == 0) fs = cl) : rqV ⟨m, t, mi, fs⟩ a c v = .agg #[vs m, vs t, .int .i64 mi, .slice a nf c, v, .bool cl] := by
  unfold rqV
  dsimp only
  rw [h1, h2]
def RqR (ad : Nat → Addr) (w w' : World) (e : Ending) : Er ((Rq × List UInt8) × Nat) → Prop
  | .error k => e = .returned (.tuple #[.agg z6.toArray, .int .i64 0, erV ad k])
  | .ok ((x, b), n) => ∃ a c v, e = .returned (.tuple #[rqV x a c v, .int .i64 (n : Int), .nilIface]) ∧ Hid (FdO w' w.heap.size a x.fs c ∧ Ow w' w.heap.size v b)
theorem RqR_ev {ad : Nat → Addr} {w w' : World} {k : Nat} (h : k < 12) : RqR ad w w' (.returned (.tuple #[.agg z6.toArray, .int .i64 0, ev (ad k)])) (.error k) := by
  show Ending.returned _ = Ending.returned _
  unfold erV
  rw [if_pos h]
theorem rql_er {l : List UInt8} {k : Nat} (h : rql l = .error k) : k < 12 := by
  unfold rql at h
  split at h
  · injection h with h; omega
  · split at h
    · injection h with h; omega
    · split at h
      · rename_i hm
        injection h with h
        have := mno_er hm
        omega
      · cases h
theorem rdf_er {l : List UInt8} {k : Nat} (h : rdf l = .error k) : k < 12 := by
  unfold rdf at h
  split at h
  · injection h with h; omega
  · split at h
    · cases h
    · injection h with h; omega
theorem ckh_er {fs : List FD} {mi : Int} {k : Nat} (h : ckh fs mi = some k) : k = 6 := by
  unfold ckh at h
  split at h
  · exact (Option.some.inj h).symm
  · split at h
    · exact (Option.some.inj h).symm
    · cases h
theorem frm_er {fs : List FD} {mi u : Int} {k : Nat} (h : frm fs mi u = .error k) : k = 5 ∨ k = 7 := by
  unfold frm frl at h
  split at h
  · injection h with h; exact .inl h.symm
  · split at h
    · injection h with h; exact .inl h.symm
    · split at h
      · cases h
      · split at h
        · cases h
        · split at h
          · cases h
          · split at h
            · injection h with h; exact .inr h.symm
            · injection h with h; exact .inl h.symm
theorem frm_len {fs : List FD} {mi u way : Int} {n : Nat} (h : frm fs mi u = .ok (way, n)) : n ≤ 1048576 := by
  unfold frm frl at h
  split at h
  · cases h
  · split at h
    · cases h
    · split at h
      · injection h with h; injection h with e1 e2; omega
      · split at h
        · injection h with h; injection h with e1 e2; omega
        · split at h
          · injection h with h; injection h with e1 e2
            have := prs_ge (lst fs).data.toList
            omega
          · split at h <;> cases h
set_option maxRecDepth 100000 in
set_option maxHeartbeats 4000000 in
theorem readRequest_walk (ad : Nat → Addr) {a : Option Addr} {n c : Nat} {ds : List UInt8} (hn40 : n ≤ 1099511627776) (w : World) (hS : Sb w (.slice a n c) ds) (hW : GW w ad) : Calls Tryz.prog 72 #[.slice a n c] w fun e w' => RqR ad w w' e (rqP ds) ∧ Up w w' := by
  have HW := Hid.of hW
  clear hW
  obtain ⟨hn, hnc, hcm⟩ := hS.len
  unfold maxLen at hcm
  have HN := Hid.of hn
  have HSb := Hid.of hS
  clear hn hS
  have HA0 := Hid.of (at_new w 48 z6)
  have HU0 := Hid.of ((Up.refl w).alloc (.cells z6.toArray 48))
  obtain ⟨rv, hrv⟩ : ∃ rv, rqP ds = rv := ⟨_, rfl⟩
  have HR := Hid.of hrv
  rw [hrv]
  clear hrv
  unfold rqP msg at HR
  go_enter Tryz.func72, Tryz.ntmps72
  go_wp2_with (with_reducible show wpList _ _ _ ({ dst := _, op := Op.load 106 _, type := _, pos := _, after := _, guard := _ } :: _) _ _; refine Shut.out ?_)
  show wpList _ _ _ _ _ _
  obtain ⟨w1, hw1⟩ : ∃ w1, w.alloc (.cells z6.toArray 48) = w1 := ⟨_, rfl⟩
  rw [hw1] at HA0 HU0
  change wpList _ _ _ _ _ (w.alloc (.cells z6.toArray 48))
  rw [hw1]
  clear hw1
  have hgl : w1.cell? ⟨1, 0, none⟩ = some (ev (ad 9)) := (HW.out.ge.up HU0.out).gl 9 (by decide)
  go_wp2_with fail
  refine (cutHead_walk ad 9 hn40 w1 (HSb.out.up HU0.out) (HW.out.ge.up HU0.out)).mono ?_
  rintro e w2 ⟨rfl, h9⟩
  have HU2 := Hid.of (HU0.out.trans h9)
  have HA2 := Hid.of (HA0.out.up h9)
  clear h9 hgl
  cases hc : cHd 9 ds with
  | error k =>
    rw [hc] at HR
    have HE := Hid.of (show rv = .error k from HR.out.symm)
    have hne := er_neq ad k
    have hge := er_grd ad k
    unfold hR z3
    dsimp only
    go_wp2_with (with_reducible show wpList _ _ _ ({ dst := _, op := Op.store 48 (Operand.tmp 2) _, type := _, pos := _, after := _, guard := _ } :: _) _ _; refine Shut.out ?_)
    show wpList _ _ _ _ _ _
    refine wpList_store_at rfl 48 _ _ rfl (w.heap.size) (HA2.out.up ((Up.refl w2).alloc _)) z6 rfl rfl rfl (by kernel_rfl) (by kernel_rfl) ?_
    intro w8 hA8 hg8
    have HA8 := Hid.of hA8
    have HU8 := Hid.of ((HU2.out.alloc _).by hg8 (fun g hg => by have := Option.some.inj hg; omega))
    clear hA8 hg8
    simp only [Act.put]
    repeat go_step
    refine bodyPost_ret (result_cell_tmp2 Tryz.results72 _ _ (w.heap.size) z6 _ _ rfl rfl rfl HA8.out.range Tryz.underlying48 rfl (by kernel_rfl)) rfl ?_
    rw [HE.out]
    exact ⟨rfl, HU8.out⟩
  | ok q =>
    obtain ⟨st, fl, k⟩ := q
    rw [hc] at HR
    have hck := cHd_ok hc
    have hkn : k ≤ n := by rw [HN.out]; exact hck.2.1
    have hst : st.length ≤ 8000 := hck.2.2.1
    have hfll : fl.length ≤ 16384 := hck.2.2.2.1
    unfold hR
    dsimp only at HR ⊢
    clear hck hc
    go_wp2_with fail
    obtain ⟨w3, hw3⟩ : ∃ w3, w2.alloc (.cells #[vs st, vs fl, .int .i64 (k : Int)] 177) = w3 := ⟨_, rfl⟩
    have HH3 := Hid.of (show At w3 w2.heap.size 177 [vs st, vs fl, .int .i64 (k : Int)] by rw [← hw3]; exact at_new w2 177 [vs st, vs fl, .int .i64 (k : Int)])
    have hu3 : Up w2 w3 := by rw [← hw3]; exact (Up.refl w2).alloc _
    have HU3 := Hid.of (HU2.out.trans hu3)
    have HA3 := Hid.of (HA2.out.up hu3)
    change Calls _ _ _ (w2.alloc (.cells #[vs st, vs fl, .int .i64 (k : Int)] 177)) _
    rw [hw3]
    clear hw3 hu3
    refine (readRequestLine_walk ad ⟨st.toArray⟩ (by rw [str_len]; omega) w3 (HW.out.up HU3.out).ge (HW.out.up HU3.out).gn (HW.out.up HU3.out).mt).mono ?_
    rintro e w4 ⟨rfl, h9⟩
    have HU4 := Hid.of (HU3.out.trans h9)
    have HA4 := Hid.of (HA3.out.up h9)
    have HH4 := Hid.of (HH3.out.up h9)
    clear h9 HH3
    unfold rqg at HR
    cases hl : rql st with
    | error e1 =>
      rw [hl] at HR
      have HE := Hid.of (show rv = .error e1 from HR.out.symm)
      have HK := Hid.of (rql_er hl)
      unfold rlR z6
      dsimp only
      go_wp2_with (with_reducible show wpList _ _ _ ({ dst := _, op := Op.store 48 (Operand.tmp 2) _, type := _, pos := _, after := _, guard := _ } :: _) _ _; refine Shut.out ?_)
      show wpList _ _ _ _ _ _
      refine wpList_store_at rfl 48 _ _ rfl (w.heap.size) (HA4.out.up ((Up.refl w4).alloc _)) z6 rfl rfl rfl (by kernel_rfl) (by kernel_rfl) ?_
      intro w8 hA8 hg8
      have HA8 := Hid.of hA8
      have HU8 := Hid.of ((HU4.out.alloc _).by hg8 (fun g hg => by have := Option.some.inj hg; omega))
      clear hA8 hg8
      simp only [Act.put]
      repeat go_step
      refine bodyPost_ret (result_cell_tmp2 Tryz.results72 _ _ (w.heap.size) z6 _ _ rfl rfl rfl HA8.out.range Tryz.underlying48 rfl (by kernel_rfl)) rfl ?_
      rw [HE.out]
      exact ⟨RqR_ev HK.out, HU8.out⟩
    | ok q1 =>
      obtain ⟨m, t, mi⟩ := q1
      rw [hl] at HR
      unfold rlR
      dsimp only at HR ⊢
      clear hl
      have HUw4 := Hid.of HU4.out
      have HUw4s := Hid.of (show w.heap.size < w4.heap.size from lt_of_at HA4.out)
      have h1 : (w4.alloc (.cells #[vs m, vs t, .int .i64 mi, .slice none 0 0, .slice none 0 0, .bool false] 48)).cell? ⟨w2.heap.size, 1, none⟩ = some (vs fl) := (HH4.out.up ((Up.refl w4).alloc _)).cell (i := 1) rfl
      go_wp2_with fail
      obtain ⟨w5, hw5⟩ : ∃ w5, w4.alloc (.cells #[vs m, vs t, .int .i64 mi, .slice none 0 0, .slice none 0 0, .bool false] 48) = w5 := ⟨_, rfl⟩
      have HR5 := Hid.of (show At w5 w4.heap.size 48 [vs m, vs t, .int .i64 mi, .slice none 0 0, .slice none 0 0, .bool false] by rw [← hw5]; exact at_new w4 48 [vs m, vs t, .int .i64 mi, .slice none 0 0, .slice none 0 0, .bool false])
      have hu5 : Up w4 w5 := by rw [← hw5]; exact (Up.refl w4).alloc _
      have HU5 := Hid.of (HU4.out.trans hu5)
      have HA5 := Hid.of (HA4.out.up hu5)
      have HH5 := Hid.of (HH4.out.up hu5)
      change Calls _ _ _ (w4.alloc (.cells #[vs m, vs t, .int .i64 mi, .slice none 0 0, .slice none 0 0, .bool false] 48)) _
      rw [hw5]
      clear hw5 hu5 h1
      refine (readFields_walk ad ⟨fl.toArray⟩ (by rw [str_len]; exact hfll) w5 (HW.out.up HU5.out).ge).mono ?_
      rintro e w6 ⟨hRd, h9⟩
      have HU6 := Hid.of (HU5.out.trans h9)
      have HA6 := Hid.of (HA5.out.up h9)
      have HH6 := Hid.of (HH5.out.up h9)
      have HR6 := Hid.of (HR5.out.up h9)
      have HU56 := Hid.of h9
      clear h9
      have q3 : w6.cell? ⟨w4.heap.size, 3, none⟩ = some (.slice none 0 0) := HR6.out.cell (i := 3) rfl
      have p3 := HR6.out.thaw 3
      have hrne : w4.heap.size ≠ w.heap.size := by have := HUw4s.out; omega
      cases hd : rdf fl with
      | error e2 =>
        rw [hd] at HR
        have HE := Hid.of (show rv = .error e2 from HR.out.symm)
        have HK := Hid.of (rdf_er hd)
        rw [show (⟨fl.toArray⟩ : ByteArray).data.toList = fl from rfl, hd] at hRd
        obtain rfl : e = _ := hRd
        dsimp only
        have HG3 := Hid.of (grown_at w6 w4.heap.size 3 (.slice none 0 0))
        go_wp2_with (with_reducible show wpList _ _ _ ({ dst := _, op := Op.store 48 (Operand.tmp 2) _, type := _, pos := _, after := _, guard := _ } :: _) _ _; refine Shut.out ?_)
        show wpList _ _ _ _ _ _
        refine wpList_store_at rfl 48 _ _ rfl (w.heap.size) (HA6.out.by HG3.out (fun e => hrne (Option.some.inj e))) z6 rfl rfl rfl (by kernel_rfl) (by kernel_rfl) ?_
        intro w8 hA8 hg8
        have HA8 := Hid.of hA8
        have HU8 := Hid.of ((HU6.out.by HG3.out (fun g hg => by have := Option.some.inj hg; have := HUw4.out.size; omega)).by hg8 (fun g hg => by have := Option.some.inj hg; omega))
        clear hA8 hg8
        simp only [Act.put]
        repeat go_step
        refine bodyPost_ret (result_cell_tmp2 Tryz.results72 _ _ (w.heap.size) z6 _ _ rfl rfl rfl HA8.out.range Tryz.underlying48 rfl (by kernel_rfl)) rfl ?_
        rw [HE.out]
        exact ⟨RqR_ev HK.out, HU8.out⟩
      | ok fs =>
        rw [hd] at HR
        rw [show (⟨fl.toArray⟩ : ByteArray).data.toList = fl from rfl, hd] at hRd
        obtain ⟨af, cf, rfl, hFO⟩ := hRd
        have hsm := rdf_small hd
        have hfl2 : fs.length ≤ 1048576 := by omega
        have HSm := Hid.of (show ∀ f ∈ fs, f.v.size ≤ 1048576 from fun f hf => by have := (hsm.2 f hf).2; omega)
        clear hsm hd
        dsimp only at HR ⊢
        have HFO6 := Hid.of (ow_base hFO.out HU5.out.size)
        clear hFO
        obtain ⟨nf, hnf⟩ : ∃ nf, fs.length = nf := ⟨_, rfl⟩
        have HNf := Hid.of hnf
        rw [hnf] at HFO6 ⊢
        clear hnf
        have HG3 := Hid.of (grown_at w6 w4.heap.size 3 (.slice af nf cf))
        have HR7 := Hid.of (HR6.out.set 3 (.slice af nf cf))
        dsimp only [List.set_cons_zero, List.set_cons_succ] at HR7
        have HA7 := Hid.of (HA6.out.by HG3.out (fun e => hrne (Option.some.inj e)))
        have hhne := HH6.out.ne HR6.out (by decide)
        have HH7 := Hid.of (HH6.out.by HG3.out (fun e => hhne (Option.some.inj e).symm))
        have HU7 := Hid.of (HU6.out.by HG3.out (fun g hg => by have := Option.some.inj hg; have := HUw4.out.size; omega))
        have HFO7 := Hid.of (HFO6.out.kept HG3.out (.inr (own_ne HFO6.out HR6.out (by decide))))
        have r2 : (w6.setCell ⟨w4.heap.size, 3, none⟩ (.slice af nf cf)).cell? ⟨w4.heap.size, 2, none⟩ = some (.int .i64 mi) := HR7.out.cell (i := 2) rfl
        have r3 : (w6.setCell ⟨w4.heap.size, 3, none⟩ (.slice af nf cf)).cell? ⟨w4.heap.size, 3, none⟩ = some (.slice af nf cf) := HR7.out.cell (i := 3) rfl
        clear HG3 hhne HR6 HA6 HH6 HFO6
        go_wp2_with fail
        change Calls _ _ _ (w6.setCell ⟨w4.heap.size, 3, none⟩ (.slice af nf cf)) _
        obtain ⟨w7, hw7⟩ : ∃ w7, w6.setCell ⟨w4.heap.size, 3, none⟩ (.slice af nf cf) = w7 := ⟨_, rfl⟩
        rw [hw7] at HR7 HA7 HH7 HU7 HFO7 ⊢
        clear hw7 r2 r3 q3 p3
        have HFd := Hid.of (show FdL w7 af fs cf by have h := HFO7.out; rw [← HNf.out] at h; exact FdO.fdl h)
        have HCh := Hid.of (checkHost_walk ad af fs cf mi w7 HFd.out hfl2 HSm.out (HW.out.up HU7.out).ge (HW.out.up HU7.out).kd)
        rw [HNf.out] at HCh
        refine HCh.out.mono ?_
        rintro e w8' ⟨rfl, h9⟩
        have HU8' := Hid.of (HU7.out.trans h9)
        have HA8' := Hid.of (HA7.out.up h9)
        have HH8' := Hid.of (HH7.out.up h9)
        have HR8' := Hid.of (HR7.out.up h9)
        have HFO8' := Hid.of (ow_up HFO7.out h9)
        have HFd8' := Hid.of (HFd.out.up h9)
        clear h9 HCh
        cases hk : ckh fs mi with
        | some e3 =>
          rw [hk] at HR
          have HE := Hid.of (show rv = .error e3 from HR.out.symm)
          have HK := Hid.of (show e3 < 12 by have := ckh_er hk; omega)
          unfold eoV
          dsimp only
          go_wp2_with (with_reducible show wpList _ _ _ ({ dst := _, op := Op.store 48 (Operand.tmp 2) _, type := _, pos := _, after := _, guard := _ } :: _) _ _; refine Shut.out ?_)
          show wpList _ _ _ _ _ _
          refine wpList_store_at rfl 48 _ _ rfl (w.heap.size) (HA8'.out) z6 rfl rfl rfl (by kernel_rfl) (by kernel_rfl) ?_
          intro w8 hA8 hg8
          have HA8 := Hid.of hA8
          have HU8 := Hid.of ((HU8'.out).by hg8 (fun g hg => by have := Option.some.inj hg; omega))
          clear hA8 hg8
          simp only [Act.put]
          repeat go_step
          refine bodyPost_ret (result_cell_tmp2 Tryz.results72 _ _ (w.heap.size) z6 _ _ rfl rfl rfl HA8.out.range Tryz.underlying48 rfl (by kernel_rfl)) rfl ?_
          rw [HE.out]
          exact ⟨RqR_ev HK.out, HU8.out⟩
        | none =>
          rw [hk] at HR
          unfold eoV
          dsimp only at HR ⊢
          clear hk
          have r2 : w8'.cell? ⟨w4.heap.size, 2, none⟩ = some (.int .i64 mi) := HR8'.out.cell (i := 2) rfl
          have r3 : w8'.cell? ⟨w4.heap.size, 3, none⟩ = some (.slice af nf cf) := HR8'.out.cell (i := 3) rfl
          have HFm := Hid.of (framingOf_walk ad af fs cf mi 0 w8' HFd8'.out hfl2 HSm.out (HW.out.up HU8'.out).ge (HW.out.up HU8'.out).kd (HW.out.up HU8'.out).gp)
          rw [HNf.out] at HFm
          go_wp2_with fail
          refine HFm.out.mono ?_
          rintro e w9 ⟨rfl, h9⟩
          have HU9 := Hid.of (HU8'.out.trans h9)
          have HA9 := Hid.of (HA8'.out.up h9)
          have HH9 := Hid.of (HH8'.out.up h9)
          have HR9 := Hid.of (HR8'.out.up h9)
          have HFO9 := Hid.of (ow_up HFO8'.out h9)
          have HFd9 := Hid.of (HFd8'.out.up h9)
          clear h9 HFm r2 r3
          cases hf0 : frm fs mi 0 with
          | error e4 =>
            rw [hf0] at HR
            have HE := Hid.of (show rv = .error e4 from HR.out.symm)
            have HK := Hid.of (show e4 < 12 by have := frm_er hf0; omega)
            unfold frR z2
            dsimp only
            go_wp2_with (with_reducible show wpList _ _ _ ({ dst := _, op := Op.store 48 (Operand.tmp 2) _, type := _, pos := _, after := _, guard := _ } :: _) _ _; refine Shut.out ?_)
            show wpList _ _ _ _ _ _
            refine wpList_store_at rfl 48 _ _ rfl (w.heap.size) (HA9.out.up ((Up.refl w9).alloc _)) z6 rfl rfl rfl (by kernel_rfl) (by kernel_rfl) ?_
            intro w8 hA8 hg8
            have HA8 := Hid.of hA8
            have HU8 := Hid.of ((HU9.out.alloc _).by hg8 (fun g hg => by have := Option.some.inj hg; omega))
            clear hA8 hg8
            simp only [Act.put]
            repeat go_step
            refine bodyPost_ret (result_cell_tmp2 Tryz.results72 _ _ (w.heap.size) z6 _ _ rfl rfl rfl HA8.out.range Tryz.underlying48 rfl (by kernel_rfl)) rfl ?_
            rw [HE.out]
            exact ⟨RqR_ev HK.out, HU8.out⟩
          | ok q4 =>
            obtain ⟨way, len⟩ := q4
            rw [hf0] at HR
            have hlen := frm_len hf0
            unfold frR
            dsimp only at HR ⊢
            clear hf0
            go_wp2
            obtain ⟨wA, hwA⟩ : ∃ wA, w9.alloc (.cells #[.int .i64 way, .int .i64 (len : Int)] 185) = wA := ⟨_, rfl⟩
            have HFA := Hid.of (show At wA w9.heap.size 185 [.int .i64 way, .int .i64 (len : Int)] by rw [← hwA]; exact at_new w9 185 [.int .i64 way, .int .i64 (len : Int)])
            have huA : Up w9 wA := by rw [← hwA]; exact (Up.refl w9).alloc _
            have HUA := Hid.of (HU9.out.trans huA)
            have HAA := Hid.of (HA9.out.up huA)
            have HHA := Hid.of (HH9.out.up huA)
            have HRA := Hid.of (HR9.out.up huA)
            have HFO := Hid.of (ow_up HFO9.out huA)
            have HFA2 := Hid.of (HFd9.out.up huA)
            change Code.wp _ _ _ _ (w9.alloc (.cells #[.int .i64 way, .int .i64 (len : Int)] 185))
            rw [hwA]
            clear hwA huA HU9 HA9 HH9 HR9 HFO9 HFd9
            have hSk := HSb.out.sub k n hkn (by rw [← HN.out]; exact Nat.le_refl _)
            rw [show (ds.take n).drop k = ds.drop k by rw [HN.out, List.take_length]] at hSk
            have HCt := Hid.of (fun (w2 : World) (hu : Up wA w2) => cut_walk ad way len (by omega) (by omega) w2 (hSk.up (HUA.out.trans hu)) (HW.out.up (HUA.out.trans hu)).ge)
            clear hSk
            have HRes := Hid.of (show ∀ r : Er ((Rq × List UInt8) × Nat), (match fcu way len (ds.drop k) with | .error e => .error e | .ok (b, n) => .ok ((⟨m, t, mi, fs⟩, b), k + n)) = r → rv = r from fun r hr => by
              rw [← HR.out, ← hr]
              cases fcu way len (ds.drop k) <;> rfl)
            clear HR
            refine wp_region_held_drew (S := fun w2 => Up wA w2) (by kernel_rfl) (Up.refl wA).drew (fun hS => ?_)
            refine wpAnyH_take (i := 0) (oi := { dst := some 64, op := Go.Op.load 185 (Go.Operand.tmp 8), type := 185, pos := "message.go:22", after := #[], guard := none }) (v := .agg #[.int .i64 way, .int .i64 (len : Int)]) rfl (by kernel_rfl) (by kernel_rfl) (by kernel_rfl) (fun _ _ _ h => h) (Or.inl ⟨by kernel_rfl, ?_⟩) hS ?_
            · intro w5 hSw
              have hf0 : w5.cell? ⟨w9.heap.size, 0, none⟩ = some (.int .i64 way) := hSw.cell (HFA.out.cell (i := 0) rfl)
              have hf1 : w5.cell? ⟨w9.heap.size, 1, none⟩ = some (.int .i64 (len : Int)) := hSw.cell (HFA.out.cell (i := 1) rfl)
              clear hSw hS
              go_simp
            simp only [Act.put, List.setIfInBounds_toArray, List.set_cons_zero, List.set_cons_succ]
            refine wpAnyH_take (i := 1) (oi := { dst := some 65, op := Go.Op.move (Go.Operand.tmp 0), type := 22, pos := "message.go:22", after := #[], guard := none }) (v := .slice a n c) rfl (by kernel_rfl) (by kernel_rfl) (by kernel_rfl) (fun _ _ _ h => h) (Or.inl ⟨by kernel_rfl, ?_⟩) hS ?_
            · intro w5 hSw
              clear hSw hS
              go_simp
            simp only [Act.put, List.setIfInBounds_toArray, List.set_cons_zero, List.set_cons_succ]
            refine wpAnyH_take (i := 2) (oi := { dst := some 66, op := Go.Op.fieldAddr 177 (Go.Operand.tmp 5) 2, type := 0, pos := "message.go:22", after := #[], guard := none }) (v := .pointer (some ⟨w2.heap.size, 2, none⟩)) rfl (by kernel_rfl) (by kernel_rfl) (by kernel_rfl) (fun _ _ _ h => h) (Or.inl ⟨by kernel_rfl, ?_⟩) hS ?_
            · intro w5 hSw
              clear hSw hS
              go_simp
            simp only [Act.put, List.setIfInBounds_toArray, List.set_cons_zero, List.set_cons_succ]
            refine wpAnyH_take (i := 3) (oi := { dst := some 67, op := Go.Op.load 3 (Go.Operand.tmp 66), type := 3, pos := "message.go:22", after := #[{ on := 2, ground := Go.Ground.data }], guard := none }) (v := .int .i64 (k : Int)) rfl (by kernel_rfl) (by kernel_rfl) (by kernel_rfl) (fun _ _ _ h => h) (Or.inl ⟨by kernel_rfl, ?_⟩) hS ?_
            · intro w5 hSw
              have hh2 : w5.cell? ⟨w2.heap.size, 2, none⟩ = some (.int .i64 (k : Int)) := hSw.cell (HHA.out.cell (i := 2) rfl)
              clear hSw hS
              go_simp
            simp only [Act.put, List.setIfInBounds_toArray, List.set_cons_zero, List.set_cons_succ]
            refine wpAnyH_take (i := 4) (oi := { dst := some 68, op := Go.Op.slice 22 (Go.Operand.tmp 65) (some (Go.Operand.tmp 67)) none none, type := 22, pos := "message.go:22", after := #[{ on := 1, ground := Go.Ground.data }, { on := 3, ground := Go.Ground.data }], guard := none }) (v := .slice (sv a c k) (n - k) (c - k)) rfl (by kernel_rfl) (by kernel_rfl) (by kernel_rfl) (fun _ _ _ h => h) (Or.inl ⟨by kernel_rfl, ?_⟩) hS ?_
            · intro w5 hSw
              clear hSw hS
              exact exec_sublo (by omega) rfl rfl rfl
            simp only [Act.put, List.setIfInBounds_toArray, List.set_cons_zero, List.set_cons_succ]
            refine wpAnyH_ready (rs := [5]) (by kernel_rfl) (by simp) ?_
            refine AllReadyH.cons (o := { dst := some 69, op := Go.Op.call { callee := Go.Callee.value (Go.Operand.func 119), args := #[Go.Operand.tmp 64, Go.Operand.tmp 68], argTypes := #[185, 22] }, type := 147, pos := "message.go:22", after := #[{ on := 0, ground := Go.Ground.data }, { on := 4, ground := Go.Ground.data }], guard := none }) rfl (fun K hK => ?_) AllReadyH.nil
            rw [if_pos (by kernel_rfl)]
            go_simp
            refine (HCt.out _ hS).mono ?_
            rintro e wB ⟨hUn, u5⟩
            have HSB := Hid.of (hS.trans u5)
            have HSs := Hid.of hS
            clear u5 hS
            cases hf : fcu way len (ds.drop k) with
            | error e9 =>
              rw [hf] at hUn
              obtain rfl : e = _ := hUn
              dsimp only
              refine hK.out _ _ HSB.out (fun hS => ?_)
              clear hK K
              refine wpAnyH_take (i := 6) (oi := { dst := some 63, op := Go.Op.move (Go.Operand.tmp 69), type := 147, pos := "message.go:22", after := #[{ on := 5, ground := Go.Ground.data }], guard := none }) (v := .tuple #[.slice none 0 0, .int .i64 0, erV ad e9]) rfl (by kernel_rfl) (by kernel_rfl) (by kernel_rfl) (fun _ _ _ h => h) (Or.inl ⟨by kernel_rfl, ?_⟩) hS ?_
              · intro w5 hSw
                clear hSw hS
                go_simp
              simp only [Act.put, List.setIfInBounds_toArray, List.set_cons_zero, List.set_cons_succ]
              refine wpAnyH_take (i := 7) (oi := { dst := some 70, op := Go.Op.extract (Go.Operand.tmp 63) 0, type := 22, pos := "message.go:22", after := #[{ on := 6, ground := Go.Ground.data }], guard := none }) (v := .slice none 0 0) rfl (by kernel_rfl) (by kernel_rfl) (by kernel_rfl) (fun _ _ _ h => h) (Or.inl ⟨by kernel_rfl, ?_⟩) hS ?_
              · intro w5 hSw
                clear hSw hS
                go_simp
              simp only [Act.put, List.setIfInBounds_toArray, List.set_cons_zero, List.set_cons_succ]
              refine wpAnyH_take (i := 8) (oi := { dst := some 71, op := Go.Op.extract (Go.Operand.tmp 63) 1, type := 3, pos := "message.go:22", after := #[{ on := 6, ground := Go.Ground.data }, { on := 10, ground := Go.Ground.gcOnly Go.Departure.lateStores }], guard := none }) (v := .int .i64 0) rfl (by kernel_rfl) (by kernel_rfl) (by kernel_rfl) (fun _ _ _ h => h) (Or.inl ⟨by kernel_rfl, ?_⟩) hS ?_
              · intro w5 hSw
                clear hSw hS
                go_simp
              simp only [Act.put, List.setIfInBounds_toArray, List.set_cons_zero, List.set_cons_succ]
              refine wpAnyH_take (i := 9) (oi := { dst := some 72, op := Go.Op.extract (Go.Operand.tmp 63) 2, type := 106, pos := "message.go:22", after := #[{ on := 6, ground := Go.Ground.data }, { on := 11, ground := Go.Ground.gcOnly Go.Departure.lateStores }], guard := none }) (v := erV ad e9) rfl (by kernel_rfl) (by kernel_rfl) (by kernel_rfl) (fun _ _ _ h => h) (Or.inl ⟨by kernel_rfl, ?_⟩) hS ?_
              · intro w5 hSw
                clear hSw hS
                go_simp
              simp only [Act.put, List.setIfInBounds_toArray, List.set_cons_zero, List.set_cons_succ]
              refine wpAnyH_take (i := 10) (oi := { dst := some 9, op := Go.Op.assign (Go.Operand.tmp 70), type := 22, pos := "message.go:22", after := #[{ on := 7, ground := Go.Ground.data }, { on := 5, ground := Go.Ground.chain }, { on := 0, ground := Go.Ground.phase }, { on := 1, ground := Go.Ground.phase }, { on := 2, ground := Go.Ground.phase }, { on := 3, ground := Go.Ground.phase }, { on := 4, ground := Go.Ground.phase }, { on := 5, ground := Go.Ground.phase }, { on := 6, ground := Go.Ground.phase }, { on := 7, ground := Go.Ground.phase }, { on := 8, ground := Go.Ground.textOnly Go.Departure.lateStores }, { on := 9, ground := Go.Ground.textOnly Go.Departure.lateStores }], guard := none }) (v := .slice none 0 0) rfl (by kernel_rfl) (by kernel_rfl) (by kernel_rfl) (fun _ _ _ h => h) (Or.inl ⟨by kernel_rfl, ?_⟩) hS ?_
              · intro w5 hSw
                clear hSw hS
                go_simp
              simp only [Act.put, List.setIfInBounds_toArray, List.set_cons_zero, List.set_cons_succ]
              refine wpAnyH_take (i := 11) (oi := { dst := some 10, op := Go.Op.assign (Go.Operand.tmp 71), type := 3, pos := "message.go:22", after := #[{ on := 8, ground := Go.Ground.data }, { on := 10, ground := Go.Ground.chain }, { on := 0, ground := Go.Ground.phase }, { on := 1, ground := Go.Ground.phase }, { on := 2, ground := Go.Ground.phase }, { on := 3, ground := Go.Ground.phase }, { on := 4, ground := Go.Ground.phase }, { on := 5, ground := Go.Ground.phase }, { on := 6, ground := Go.Ground.phase }, { on := 7, ground := Go.Ground.phase }, { on := 8, ground := Go.Ground.phase }, { on := 9, ground := Go.Ground.textOnly Go.Departure.lateStores }, { on := 10, ground := Go.Ground.phase }], guard := none }) (v := .int .i64 0) rfl (by kernel_rfl) (by kernel_rfl) (by kernel_rfl) (fun _ _ _ h => h) (Or.inl ⟨by kernel_rfl, ?_⟩) hS ?_
              · intro w5 hSw
                clear hSw hS
                go_simp
              simp only [Act.put, List.setIfInBounds_toArray, List.set_cons_zero, List.set_cons_succ]
              refine wpAnyH_take (i := 12) (oi := { dst := some 6, op := Go.Op.assign (Go.Operand.tmp 72), type := 106, pos := "message.go:22", after := #[{ on := 9, ground := Go.Ground.data }, { on := 11, ground := Go.Ground.chain }, { on := 0, ground := Go.Ground.phase }, { on := 1, ground := Go.Ground.phase }, { on := 2, ground := Go.Ground.phase }, { on := 3, ground := Go.Ground.phase }, { on := 4, ground := Go.Ground.phase }, { on := 5, ground := Go.Ground.phase }, { on := 6, ground := Go.Ground.phase }, { on := 7, ground := Go.Ground.phase }, { on := 8, ground := Go.Ground.phase }, { on := 9, ground := Go.Ground.phase }, { on := 10, ground := Go.Ground.phase }, { on := 11, ground := Go.Ground.phase }], guard := none }) (v := erV ad e9) rfl (by kernel_rfl) (by kernel_rfl) (by kernel_rfl) (fun _ _ _ h => h) (Or.inl ⟨by kernel_rfl, ?_⟩) hS ?_
              · intro w5 hSw
                clear hSw hS
                go_simp
              simp only [Act.put, List.setIfInBounds_toArray, List.set_cons_zero, List.set_cons_succ]
              clear hS
              refine wpAnyH_done (by kernel_rfl) ?_ _
              have hne := er_neq ad e9
              have hge := er_grd ad e9
              have HE := Hid.of (HRes.out (.error e9) (by rw [hf]))
              go_wp2_with (with_reducible show wpList _ _ _ ({ dst := _, op := Op.store 48 (Operand.tmp 2) _, type := _, pos := _, after := _, guard := _ } :: _) _ _; refine Shut.out ?_)
              show wpList _ _ _ _ _ _
              refine wpList_store_at rfl 48 _ _ rfl (w.heap.size) (HAA.out.up HSB.out) z6 rfl rfl rfl (by kernel_rfl) (by kernel_rfl) ?_
              intro w8 hA8 hg8
              have HA8 := Hid.of hA8
              have HU8 := Hid.of ((HUA.out.trans HSB.out).by hg8 (fun g hg => by have := Option.some.inj hg; omega))
              clear hA8 hg8
              simp only [Act.put]
              repeat go_step
              refine bodyPost_ret (result_cell_tmp2 Tryz.results72 _ _ (w.heap.size) z6 _ _ rfl rfl rfl HA8.out.range Tryz.underlying48 rfl (by kernel_rfl)) rfl ?_
              rw [HE.out]
              exact ⟨rfl, HU8.out⟩
            | ok q9 =>
              obtain ⟨bo, nb⟩ := q9
              rw [hf] at hUn
              obtain ⟨vB, rfl, hoB⟩ := hUn
              have HOB := Hid.of (ow_base hoB.out (Nat.le_trans HUA.out.size HSs.out.size))
              clear hoB
              dsimp only
              refine hK.out _ _ HSB.out (fun hS => ?_)
              clear hK K
              refine wpAnyH_take (i := 6) (oi := { dst := some 63, op := Go.Op.move (Go.Operand.tmp 69), type := 147, pos := "message.go:22", after := #[{ on := 5, ground := Go.Ground.data }], guard := none }) (v := .tuple #[vB, .int .i64 (nb : Int), .nilIface]) rfl (by kernel_rfl) (by kernel_rfl) (by kernel_rfl) (fun _ _ _ h => h) (Or.inl ⟨by kernel_rfl, ?_⟩) hS ?_
              · intro w5 hSw
                clear hSw hS
                go_simp
              simp only [Act.put, List.setIfInBounds_toArray, List.set_cons_zero, List.set_cons_succ]
              refine wpAnyH_take (i := 7) (oi := { dst := some 70, op := Go.Op.extract (Go.Operand.tmp 63) 0, type := 22, pos := "message.go:22", after := #[{ on := 6, ground := Go.Ground.data }], guard := none }) (v := vB) rfl (by kernel_rfl) (by kernel_rfl) (by kernel_rfl) (fun _ _ _ h => h) (Or.inl ⟨by kernel_rfl, ?_⟩) hS ?_
              · intro w5 hSw
                clear hSw hS
                go_simp
              simp only [Act.put, List.setIfInBounds_toArray, List.set_cons_zero, List.set_cons_succ]
              refine wpAnyH_take (i := 8) (oi := { dst := some 71, op := Go.Op.extract (Go.Operand.tmp 63) 1, type := 3, pos := "message.go:22", after := #[{ on := 6, ground := Go.Ground.data }, { on := 10, ground := Go.Ground.gcOnly Go.Departure.lateStores }], guard := none }) (v := .int .i64 (nb : Int)) rfl (by kernel_rfl) (by kernel_rfl) (by kernel_rfl) (fun _ _ _ h => h) (Or.inl ⟨by kernel_rfl, ?_⟩) hS ?_
              · intro w5 hSw
                clear hSw hS
                go_simp
              simp only [Act.put, List.setIfInBounds_toArray, List.set_cons_zero, List.set_cons_succ]
              refine wpAnyH_take (i := 9) (oi := { dst := some 72, op := Go.Op.extract (Go.Operand.tmp 63) 2, type := 106, pos := "message.go:22", after := #[{ on := 6, ground := Go.Ground.data }, { on := 11, ground := Go.Ground.gcOnly Go.Departure.lateStores }], guard := none }) (v := .nilIface) rfl (by kernel_rfl) (by kernel_rfl) (by kernel_rfl) (fun _ _ _ h => h) (Or.inl ⟨by kernel_rfl, ?_⟩) hS ?_
              · intro w5 hSw
                clear hSw hS
                go_simp
              simp only [Act.put, List.setIfInBounds_toArray, List.set_cons_zero, List.set_cons_succ]
              refine wpAnyH_take (i := 10) (oi := { dst := some 9, op := Go.Op.assign (Go.Operand.tmp 70), type := 22, pos := "message.go:22", after := #[{ on := 7, ground := Go.Ground.data }, { on := 5, ground := Go.Ground.chain }, { on := 0, ground := Go.Ground.phase }, { on := 1, ground := Go.Ground.phase }, { on := 2, ground := Go.Ground.phase }, { on := 3, ground := Go.Ground.phase }, { on := 4, ground := Go.Ground.phase }, { on := 5, ground := Go.Ground.phase }, { on := 6, ground := Go.Ground.phase }, { on := 7, ground := Go.Ground.phase }, { on := 8, ground := Go.Ground.textOnly Go.Departure.lateStores }, { on := 9, ground := Go.Ground.textOnly Go.Departure.lateStores }], guard := none }) (v := vB) rfl (by kernel_rfl) (by kernel_rfl) (by kernel_rfl) (fun _ _ _ h => h) (Or.inl ⟨by kernel_rfl, ?_⟩) hS ?_
              · intro w5 hSw
                clear hSw hS
                go_simp
              simp only [Act.put, List.setIfInBounds_toArray, List.set_cons_zero, List.set_cons_succ]
              refine wpAnyH_take (i := 11) (oi := { dst := some 10, op := Go.Op.assign (Go.Operand.tmp 71), type := 3, pos := "message.go:22", after := #[{ on := 8, ground := Go.Ground.data }, { on := 10, ground := Go.Ground.chain }, { on := 0, ground := Go.Ground.phase }, { on := 1, ground := Go.Ground.phase }, { on := 2, ground := Go.Ground.phase }, { on := 3, ground := Go.Ground.phase }, { on := 4, ground := Go.Ground.phase }, { on := 5, ground := Go.Ground.phase }, { on := 6, ground := Go.Ground.phase }, { on := 7, ground := Go.Ground.phase }, { on := 8, ground := Go.Ground.phase }, { on := 9, ground := Go.Ground.textOnly Go.Departure.lateStores }, { on := 10, ground := Go.Ground.phase }], guard := none }) (v := .int .i64 (nb : Int)) rfl (by kernel_rfl) (by kernel_rfl) (by kernel_rfl) (fun _ _ _ h => h) (Or.inl ⟨by kernel_rfl, ?_⟩) hS ?_
              · intro w5 hSw
                clear hSw hS
                go_simp
              simp only [Act.put, List.setIfInBounds_toArray, List.set_cons_zero, List.set_cons_succ]
              refine wpAnyH_take (i := 12) (oi := { dst := some 6, op := Go.Op.assign (Go.Operand.tmp 72), type := 106, pos := "message.go:22", after := #[{ on := 9, ground := Go.Ground.data }, { on := 11, ground := Go.Ground.chain }, { on := 0, ground := Go.Ground.phase }, { on := 1, ground := Go.Ground.phase }, { on := 2, ground := Go.Ground.phase }, { on := 3, ground := Go.Ground.phase }, { on := 4, ground := Go.Ground.phase }, { on := 5, ground := Go.Ground.phase }, { on := 6, ground := Go.Ground.phase }, { on := 7, ground := Go.Ground.phase }, { on := 8, ground := Go.Ground.phase }, { on := 9, ground := Go.Ground.phase }, { on := 10, ground := Go.Ground.phase }, { on := 11, ground := Go.Ground.phase }], guard := none }) (v := .nilIface) rfl (by kernel_rfl) (by kernel_rfl) (by kernel_rfl) (fun _ _ _ h => h) (Or.inl ⟨by kernel_rfl, ?_⟩) hS ?_
              · intro w5 hSw
                clear hSw hS
                go_simp
              simp only [Act.put, List.setIfInBounds_toArray, List.set_cons_zero, List.set_cons_succ]
              clear hS
              refine wpAnyH_done (by kernel_rfl) ?_ _
              have hfl := fcu_len hf
              rw [List.length_drop, ← HN.out] at hfl
              have hnb : nb ≤ n - k := hfl.1
              clear hfl
              have HE := Hid.of (HRes.out (.ok ((⟨m, t, mi, fs⟩, bo), k + nb)) (by rw [hf]))
              clear hf
              have HRB := Hid.of (HRA.out.up HSB.out)
              have r2 : wB.cell? ⟨w4.heap.size, 2, none⟩ = some (.int .i64 mi) := HRB.out.cell (i := 2) rfl
              have r3 : wB.cell? ⟨w4.heap.size, 3, none⟩ = some (.slice af nf cf) := HRB.out.cell (i := 3) rfl
              have HUB := Hid.of (HUA.out.trans HSB.out)
              have HFB := Hid.of (show FdL wB af fs cf by have h := HFA2.out.up HSB.out; exact h)
              have HCs := Hid.of (closes_walk af fs cf mi wB HFB.out hfl2 HSm.out (HW.out.up HUB.out).kd (HW.out.up HUB.out).gm)
              rw [HNf.out] at HCs
              obtain ⟨clv, hclv⟩ : ∃ clv, cls (mi == 0) fs = clv := ⟨_, rfl⟩
              have HCv := Hid.of hclv
              rw [hclv] at HCs
              clear hclv
              go_wp2_with fail
              refine HCs.out.mono ?_
              rintro e wC ⟨rfl, uC⟩
              have HUC := Hid.of (HUB.out.trans uC)
              have HRC := Hid.of (HRB.out.up uC)
              have HAC := Hid.of ((HAA.out.up HSB.out).up uC)
              have HHC := Hid.of ((HHA.out.up HSB.out).up uC)
              have HFC := Hid.of (ow_up (ow_up HFO.out HSB.out) uC)
              have HOC := Hid.of (ow_up HOB.out uC)
              clear uC r2 r3
              dsimp only
              have k4 : wC.cell? ⟨w4.heap.size, 4, none⟩ = some (.slice none 0 0) := HRC.out.cell (i := 4) rfl
              have f4 := HRC.out.thaw 4
              have k5 : wC.cell? ⟨w4.heap.size, 5, none⟩ = some (.bool false) := HRC.out.cell (i := 5) rfl
              have f5 := HRC.out.thaw 5
              obtain ⟨aB, nB, cB, rfl⟩ := Sb.shape (Ow.sb HOB.out)
              go_wp2
              have HG4 := Hid.of (grown_at wC w4.heap.size 4 (.slice aB nB cB))
              have HG5 := Hid.of (grown_at (wC.setCell ⟨w4.heap.size, 4, none⟩ (.slice aB nB cB)) w4.heap.size 5 (.bool clv))
              have HRE := Hid.of ((HRC.out.set 4 (.slice aB nB cB)).set 5 (.bool clv))
              have HUE := Hid.of ((HUC.out.by HG4.out (fun g hg => by have := Option.some.inj hg; have := HUw4.out.size; omega)).by HG5.out (fun g hg => by have := Option.some.inj hg; have := HUw4.out.size; omega))
              have hrne : w4.heap.size ≠ w.heap.size := by have := HUw4s.out; omega
              have HAE := Hid.of ((HAC.out.by HG4.out (fun e => hrne (Option.some.inj e))).by HG5.out (fun e => hrne (Option.some.inj e)))
              have hhne := HHC.out.ne HRC.out (by decide)
              have HHE := Hid.of ((HHC.out.by HG4.out (fun e => hhne (Option.some.inj e).symm)).by HG5.out (fun e => hhne (Option.some.inj e).symm))
              have HFE := Hid.of ((HFC.out.kept HG4.out (.inr (own_ne HFC.out HRC.out (by decide)))).kept HG5.out (.inr (own_ne HFC.out HRC.out (by decide))))
              have HOE := Hid.of ((HOC.out.kept HG4.out (.inr (own_ne HOC.out HRC.out (by decide)))).kept HG5.out (.inr (own_ne HOC.out HRC.out (by decide))))
              clear HG4 HG5 k4 f4 k5 f5 hrne hhne
              generalize (wC.setCell ⟨w4.heap.size, 4, none⟩ (.slice aB nB cB)).setCell ⟨w4.heap.size, 5, none⟩ (.bool clv) = wE at *
              dsimp only [List.set_cons_zero, List.set_cons_succ] at HRE
              have hone : ([vs m, vs t, .int .i64 mi, .slice af nf cf, Value.slice aB nB cB, .bool clv] : List Value).toArray.all (·.oneCell') = true := by kernel_rfl
              refine wp_region_held_drew (S := fun wS => (∃ cs, cs.length = 6 ∧ At wS w.heap.size 48 cs) ∧ At wS w4.heap.size 48 [vs m, vs t, .int .i64 mi, .slice af nf cf, (.slice aB nB cB), .bool clv] ∧ At wS w2.heap.size 177 [vs st, vs fl, .int .i64 (k : Int)] ∧ wS.ownsRow w.heap.size 89 2 (.slice af nf cf) nf (fdc fs) ∧ Ow wS w.heap.size (.slice aB nB cB) bo ∧ Up w wS) (by kernel_rfl) ⟨⟨z6, rfl, HAE.out.up (Up.refl _).drew⟩, HRE.out.up (Up.refl _).drew, HHE.out.up (Up.refl _).drew, ow_up HFE.out (Up.refl _).drew, ow_up HOE.out (Up.refl _).drew, HUE.out.drew⟩ (fun hS => ?_)
              refine wpAnyH_take (i := 0) (oi := { dst := some 85, op := Go.Op.load 48 (Go.Operand.tmp 7), type := 48, pos := "message.go:27", after := #[], guard := none }) (v := .agg [vs m, vs t, .int .i64 mi, .slice af nf cf, (.slice aB nB cB), .bool clv].toArray) rfl (by kernel_rfl) (by kernel_rfl) (by kernel_rfl) (fun _ _ _ h => h) (Or.inl ⟨by kernel_rfl, ?_⟩) hS ?_
              · intro w5 hSw
                have hld := hSw.2.1.range
                clear hS
                clear hSw
                exact exec_load6 rfl rfl hld
              simp only [Act.put, List.setIfInBounds_toArray, List.set_cons_zero, List.set_cons_succ]
              refine wpAnyH_take (i := 1) (oi := { dst := some 86, op := Go.Op.fieldAddr 177 (Go.Operand.tmp 5) 2, type := 0, pos := "message.go:27", after := #[{ on := 5, ground := Go.Ground.gcOnly Go.Departure.lateStores }], guard := none }) (v := .pointer (some ⟨w2.heap.size, 2, none⟩)) rfl (by kernel_rfl) (by kernel_rfl) (by kernel_rfl) (fun _ _ _ h => h) (Or.inl ⟨by kernel_rfl, ?_⟩) hS ?_
              · intro w5 hSw
                clear hSw hS
                go_simp
              simp only [Act.put, List.setIfInBounds_toArray, List.set_cons_zero, List.set_cons_succ]
              refine wpAnyH_take (i := 2) (oi := { dst := some 87, op := Go.Op.load 3 (Go.Operand.tmp 86), type := 3, pos := "message.go:27", after := #[{ on := 1, ground := Go.Ground.data }, { on := 5, ground := Go.Ground.gcOnly Go.Departure.lateStores }], guard := none }) (v := .int .i64 (k : Int)) rfl (by kernel_rfl) (by kernel_rfl) (by kernel_rfl) (fun _ _ _ h => h) (Or.inl ⟨by kernel_rfl, ?_⟩) hS ?_
              · intro w5 hSw
                have hh2 : w5.cell? ⟨w2.heap.size, 2, none⟩ = some (.int .i64 (k : Int)) := hSw.2.2.1.cell (i := 2) rfl
                clear hSw hS
                go_simp
              simp only [Act.put, List.setIfInBounds_toArray, List.set_cons_zero, List.set_cons_succ]
              refine wpAnyH_take (i := 3) (oi := { dst := some 88, op := Go.Op.move (Go.Operand.tmp 10), type := 3, pos := "message.go:27", after := #[{ on := 5, ground := Go.Ground.gcOnly Go.Departure.lateStores }], guard := none }) (v := .int .i64 (nb : Int)) rfl (by kernel_rfl) (by kernel_rfl) (by kernel_rfl) (fun _ _ _ h => h) (Or.inl ⟨by kernel_rfl, ?_⟩) hS ?_
              · intro w5 hSw
                clear hSw hS
                go_simp
              simp only [Act.put, List.setIfInBounds_toArray, List.set_cons_zero, List.set_cons_succ]
              refine wpAnyH_take (i := 4) (oi := { dst := some 89, op := Go.Op.binOp Go.BinOp.add 3 (Go.Operand.tmp 87) (Go.Operand.tmp 88) 3, type := 3, pos := "message.go:27", after := #[{ on := 2, ground := Go.Ground.data }, { on := 3, ground := Go.Ground.data }, { on := 5, ground := Go.Ground.gcOnly Go.Departure.lateStores }], guard := none }) (v := .int .i64 ((k + nb : Nat) : Int)) rfl (by kernel_rfl) (by kernel_rfl) (by kernel_rfl) (fun _ _ _ h => h) (Or.inl ⟨by kernel_rfl, ?_⟩) hS ?_
              · intro w5 hSw
                clear hSw hS
                go_simp
                exact wrapk _ (by omega) (by omega)
              simp only [Act.put, List.setIfInBounds_toArray, List.set_cons_zero, List.set_cons_succ]
              refine wpAnyH_ready (rs := [5]) (by kernel_rfl) (by simp) ?_
              refine AllReadyH.cons (o := { dst := none, op := Go.Op.store 48 (Go.Operand.tmp 2) (Go.Operand.tmp 85), type := 0, pos := "message.go:27", after := #[{ on := 0, ground := Go.Ground.data }, { on := 0, ground := Go.Ground.phase }, { on := 1, ground := Go.Ground.textOnly Go.Departure.lateStores }, { on := 2, ground := Go.Ground.textOnly Go.Departure.lateStores }, { on := 3, ground := Go.Ground.textOnly Go.Departure.lateStores }, { on := 4, ground := Go.Ground.textOnly Go.Departure.lateStores }], guard := none }) rfl (fun K hK => oper_of_list ?_) AllReadyH.nil
              obtain ⟨⟨cs, hcl, hcs2⟩, hS1, hS2, hS3, hS4, hS5⟩ := hS
              refine wpList_store_at rfl 48 _ _ rfl (w.heap.size) hcs2 [vs m, vs t, .int .i64 mi, .slice af nf cf, (.slice aB nB cB), .bool clv] rfl rfl hcl.symm (by kernel_rfl) hone ?_
              intro w8 hA8 hg8
              have HA8 := Hid.of hA8
              have HU8 := Hid.of (hS5.by hg8 (fun g hg => by have := Option.some.inj hg; omega))
              have HF8 := Hid.of (hS3.kept hg8 (.inr (own_ne hS3 hcs2 (by decide))))
              have HO8 := Hid.of (hS4.kept hg8 (.inr (own_ne hS4 hcs2 (by decide))))
              have HR8 := Hid.of (hS1.by hg8 (by have := hS1.ne hcs2; intro e; have := Option.some.inj e; omega))
              have HH8 := Hid.of (hS2.by hg8 (by have := hS2.ne hcs2 (by decide); intro e; have := Option.some.inj e; omega))
              clear hA8 hg8 hcs2 hS2 hS1 hS3 hS4 hS5
              refine hK.out _ _ ⟨⟨_, rfl, HA8.out⟩, HR8.out, HH8.out, HF8.out, HO8.out, HU8.out⟩ (fun hS => ?_)
              clear hK K
              refine wpAnyH_take (i := 6) (oi := { dst := some 3, op := Go.Op.assign (Go.Operand.tmp 89), type := 3, pos := "message.go:27", after := #[{ on := 4, ground := Go.Ground.data }, { on := 5, ground := Go.Ground.chain }, { on := 0, ground := Go.Ground.phase }, { on := 1, ground := Go.Ground.phase }, { on := 2, ground := Go.Ground.phase }, { on := 3, ground := Go.Ground.phase }, { on := 4, ground := Go.Ground.phase }, { on := 5, ground := Go.Ground.phase }], guard := none }) (v := .int .i64 ((k + nb : Nat) : Int)) rfl (by kernel_rfl) (by kernel_rfl) (by kernel_rfl) (fun _ _ _ h => h) (Or.inl ⟨by kernel_rfl, ?_⟩) hS ?_
              · intro w5 hSw
                clear hSw hS
                go_simp
              simp only [Act.put, List.setIfInBounds_toArray, List.set_cons_zero, List.set_cons_succ]
              refine wpAnyH_take (i := 7) (oi := { dst := some 4, op := Go.Op.assign (Go.Operand.const Go.Value.nilIface), type := 106, pos := "message.go:27", after := #[{ on := 6, ground := Go.Ground.chain }, { on := 0, ground := Go.Ground.phase }, { on := 1, ground := Go.Ground.phase }, { on := 2, ground := Go.Ground.phase }, { on := 3, ground := Go.Ground.phase }, { on := 4, ground := Go.Ground.phase }, { on := 5, ground := Go.Ground.phase }, { on := 6, ground := Go.Ground.phase }], guard := none }) (v := .nilIface) rfl (by kernel_rfl) (by kernel_rfl) (by kernel_rfl) (fun _ _ _ h => h) (Or.inl ⟨by kernel_rfl, ?_⟩) hS ?_
              · intro w5 hSw
                clear hSw hS
                go_simp
              simp only [Act.put, List.setIfInBounds_toArray, List.set_cons_zero, List.set_cons_succ]
              clear hS
              refine wpAnyH_done (by kernel_rfl) ?_ _
              repeat go_step
              refine bodyPost_ret (result_cell_tmp2 Tryz.results72 _ _ (w.heap.size) [vs m, vs t, .int .i64 mi, .slice af nf cf, (.slice aB nB cB), .bool clv] _ _ rfl rfl rfl HA8.out.range Tryz.underlying48 rfl (by kernel_rfl)) rfl ?_
              rw [HE.out]
              exact ⟨⟨af, cf, .slice aB nB cB, congrArg (fun x => Ending.returned (.tuple #[x, .int .i64 ((k + nb : Nat) : Int), .nilIface])) (rqV_eq HNf.out HCv.out).symm, Hid.of ⟨by unfold FdO; rw [HNf.out]; exact HF8.out, HO8.out⟩⟩, HU8.out⟩
end Go.Proofs.YtabpgpbcnadgcaaGreatDoor
namespace Go.Proofs.YtabpgpbcnadgcaaGreatDoor
open Go.RowKit Go.Shelf TextNum
theorem rqg_er {st fl : List UInt8} {k : Nat} (h : rqg st fl = .error k) : k < 12 := by
  unfold rqg at h
  split at h
  · rename_i he
    injection h with h
    subst h
    exact rql_er he
  · split at h
    · rename_i he
      injection h with h
      subst h
      exact rdf_er he
    · split at h
      · rename_i he
        injection h with h
        subst h
        have := ckh_er he
        omega
      · split at h
        · rename_i he
          injection h with h
          subst h
          have := frm_er he
          omega
        · cases h
theorem msg_lt {X Y : Type} {pl : Nat} {g : List UInt8 → List UInt8 → Er (X × Int × Nat)} {mk : X → Int → List UInt8 → Y} {l : List UInt8} {k : Nat} (hp : pl < 12) (hg : ∀ st fl k, g st fl = .error k → k < 12) (h : msg pl g mk l = .error k) : k < 24 := by
  unfold msg at h
  split at h
  · rename_i he
    injection h with h
    subst h
    have := cHd_er he
    omega
  · split at h
    · rename_i he
      injection h with h
      subst h
      have := hg _ _ _ he
      omega
    · split at h
      · rename_i he
        injection h with h
        subst h
        have := fcu_er he
        omega
      · cases h
theorem rqP_lt {l : List UInt8} {k : Nat} (h : rqP l = .error k) : k < 24 := msg_lt (by decide) (fun _ _ _ => rqg_er) h
def PqR (w w' : World) (e : Ending) : Er ((Rq × List UInt8) × Nat) → Prop
  | .error k => e = .returned (.tuple #[.agg z6.toArray, .int .i64 0, .int .i64 (numK k)])
  | .ok ((x, b), n) => ∃ a c v, e = .returned (.tuple #[rqV x a c v, .int .i64 (n : Int), .int .i64 0]) ∧ Hid (FdO w' w.heap.size a x.fs c ∧ Ow w' w.heap.size v b)
set_option maxRecDepth 100000 in
set_option maxHeartbeats 4000000 in
theorem ParseRequest_walk (ad : Nat → Addr) {a : Option Addr} {n c : Nat} {ds : List UInt8} (hn40 : n ≤ 1099511627776) (w : World) (hS : Sb w (.slice a n c) ds) (hW : GW w ad) : Calls Tryz.prog 29 #[.slice a n c] w fun e w' => PqR w w' e (rqP ds) ∧ Up w w' := by
  have HW := Hid.of hW
  have HA0 := Hid.of (at_new w 48 z6)
  have HU0 := Hid.of ((Up.refl w).alloc (.cells z6.toArray 48))
  have HRq := Hid.of (readRequest_walk ad hn40 (w.alloc (.cells z6.toArray 48)) (hS.up HU0.out) (hW.up HU0.out))
  clear hW hS
  go_enter Tryz.func29, Tryz.ntmps29
  go_wp2_with fail
  change Calls _ _ _ (w.alloc (.cells z6.toArray 48)) _
  generalize w.alloc (.cells z6.toArray 48) = w1 at *
  refine HRq.out.mono ?_
  rintro e w2 ⟨hR, h9⟩
  have HU2 := Hid.of (HU0.out.trans h9)
  have HA2 := Hid.of (HA0.out.up h9)
  clear h9 HRq
  cases hr : rqP ds with
  | error k =>
    rw [hr] at hR
    obtain rfl : e = _ := hR
    have hk := rqP_lt hr
    have hne := er_neq ad k
    have hge := er_grd ad k
    have HE := Hid.of hr
    unfold z6
    dsimp only
    clear hr
    go_wp2_with fail
    have HU3 := Hid.of (HU2.out.alloc (.cells #[.string ⟨#[]⟩, .string ⟨#[]⟩, .int .i64 0, .slice none 0 0, .slice none 0 0, .bool false] 48))
    refine (numberOf_any ad k hk _ (HW.out.up HU3.out).ge).mono ?_
    rintro e w4 ⟨rfl, h9⟩
    have HU4 := Hid.of (HU3.out.trans h9)
    have HA4 := Hid.of ((HA2.out.up ((Up.refl w2).alloc _)).up h9)
    clear h9
    dsimp only
    go_wp2_with (with_reducible show wpList _ _ _ ({ dst := _, op := Op.store 48 (Operand.tmp 2) _, type := _, pos := _, after := _, guard := _ } :: _) _ _; refine Shut.out ?_)
    show wpList _ _ _ _ _ _
    refine wpList_store_at rfl 48 _ _ rfl (w.heap.size) HA4.out z6 rfl rfl rfl (by kernel_rfl) (by kernel_rfl) ?_
    intro w8 hA8 hg8
    have HA8 := Hid.of hA8
    have HU8 := Hid.of (HU4.out.by hg8 (fun g hg => by have := Option.some.inj hg; omega))
    clear hA8 hg8
    simp only [Act.put]
    repeat go_step
    refine bodyPost_ret (result_cell_tmp2 Tryz.results29 _ _ (w.heap.size) z6 _ _ rfl rfl rfl HA8.out.range Tryz.underlying48 rfl (by kernel_rfl)) rfl ?_
    rw [HE.out]
    exact ⟨rfl, HU8.out⟩
  | ok q =>
    obtain ⟨⟨x, b⟩, m⟩ := q
    rw [hr] at hR
    obtain ⟨af, cf, v, rfl, hO⟩ := hR
    have HF2 := Hid.of (ow_base hO.out.1 HU0.out.size)
    have HB2 := Hid.of (ow_base hO.out.2 HU0.out.size)
    have HE := Hid.of hr
    clear hO hr
    obtain ⟨aB, nB, cB, rfl⟩ := Sb.shape (Ow.sb HB2.out)
    obtain ⟨rl, hrl⟩ : ∃ rl, rl = rqV x af cf (.slice aB nB cB) := ⟨_, rfl⟩
    have HRl := Hid.of hrl
    rw [← hrl]
    obtain ⟨xm, hxm⟩ : ∃ xm, xm = vs x.m := ⟨_, rfl⟩
    obtain ⟨xt, hxt⟩ : ∃ xt, xt = vs x.t := ⟨_, rfl⟩
    obtain ⟨cl, hcl⟩ : ∃ cl, cl = cls (x.mi == 0) x.fs := ⟨_, rfl⟩
    obtain ⟨nf, hnf⟩ : ∃ nf, nf = x.fs.length := ⟨_, rfl⟩
    have HRv := Hid.of (show rqV x af cf (.slice aB nB cB) = .agg #[vs x.m, vs x.t, .int .i64 x.mi, .slice af nf cf, .slice aB nB cB, .bool cl] by unfold rqV; rw [hcl, hnf])
    rw [hrl, HRv.out]
    clear hrl hxm hxt hcl hnf HRl
    have HA3 := Hid.of (at_new w2 48 [vs x.m, vs x.t, .int .i64 x.mi, .slice af nf cf, .slice aB nB cB, .bool cl])
    have HU3 := Hid.of ((Up.refl w2).alloc (.cells [vs x.m, vs x.t, .int .i64 x.mi, .slice af nf cf, .slice aB nB cB, .bool cl].toArray 48))
    go_wp2_with (with_reducible show wpList _ _ _ ({ dst := _, op := Op.load 48 _, type := _, pos := _, after := _, guard := _ } :: _) _ _; refine Shut.out ?_)
    show wpList _ _ _ _ _ _
    refine wpList_load_mid rfl _ _ rfl w2.heap.size 0 rfl [vs x.m, vs x.t, .int .i64 x.mi, .slice af nf cf, .slice aB nB cB, .bool cl] _ HA3.out.range Tryz.underlying48 rfl (by kernel_rfl) ?_
    simp only [Act.put, List.setIfInBounds_toArray, List.set_cons_zero, List.set_cons_succ]
    go_wp2_with (with_reducible show wpList _ _ _ ({ dst := _, op := Op.store 48 (Operand.tmp 2) _, type := _, pos := _, after := _, guard := _ } :: _) _ _; refine Shut.out ?_)
    show wpList _ _ _ _ _ _
    refine wpList_store_at rfl 48 _ _ rfl (w.heap.size) (HA2.out.up HU3.out) [vs x.m, vs x.t, .int .i64 x.mi, .slice af nf cf, .slice aB nB cB, .bool cl] rfl rfl rfl (by kernel_rfl) (by kernel_rfl) ?_
    intro w8 hA8 hg8
    have HA8 := Hid.of hA8
    have HU8 := Hid.of ((HU2.out.trans HU3.out).by hg8 (fun g hg => by have := Option.some.inj hg; omega))
    have HF8 := Hid.of ((ow_up HF2.out HU3.out).kept hg8 (.inr (own_ne HF2.out HA2.out (by decide))))
    have HO8 := Hid.of ((ow_up HB2.out HU3.out).kept hg8 (.inr (own_ne HB2.out HA2.out (by decide))))
    clear hA8 hg8
    simp only [Act.put]
    repeat go_step
    refine bodyPost_ret (result_cell_tmp2 Tryz.results29 _ _ (w.heap.size) [vs x.m, vs x.t, .int .i64 x.mi, .slice af nf cf, .slice aB nB cB, .bool cl] _ _ rfl rfl rfl HA8.out.range Tryz.underlying48 rfl (by kernel_rfl)) rfl ?_
    rw [HE.out]
    exact ⟨⟨af, cf, .slice aB nB cB, congrArg (fun y => Ending.returned (.tuple #[y, .int .i64 (m : Int), .int .i64 0])) HRv.out.symm, Hid.of ⟨HF8.out, HO8.out⟩⟩, HU8.out⟩
/-- statuses -/
def sto (z : Int) : Bool := decide (100 ≤ z) && decide (z ≤ 599)
def bdl (z : Int) : Bool := (decide (100 ≤ z) && decide (z ≤ 199)) || (z == 204) || (z == 304)
set_option maxRecDepth 100000 in
theorem isStatus_walk (z : Int) (w : World) : Calls Tryz.prog 128 #[.int .i64 z] w fun e w' => e = .returned (.bool (sto z)) ∧ w' = w := by
  by_cases h1 : 100 ≤ z
  · have d1 : decide (100 ≤ z) = true := decide_eq_true h1
    go_enter Tryz.func128, Tryz.ntmps128
    go_wp2
    go_ret
    exact ⟨by unfold sto; rw [d1]; rfl, rfl⟩
  · have d1 : decide (100 ≤ z) = false := decide_eq_false h1
    go_enter Tryz.func128, Tryz.ntmps128
    go_wp2
    go_ret
    exact ⟨by unfold sto; rw [d1]; rfl, rfl⟩
set_option maxRecDepth 100000 in
theorem isBodiless_walk (z : Int) (w : World) : Calls Tryz.prog 87 #[.int .i64 z] w fun e w' => e = .returned (.bool (bdl z)) ∧ w' = w := by
  obtain ⟨rv, hrv⟩ : ∃ rv, bdl z = rv := ⟨_, rfl⟩
  have HR := Hid.of hrv
  rw [hrv]
  clear hrv
  unfold bdl at HR
  by_cases h0 : 100 ≤ z ∧ z ≤ 199
  · have h1 := h0.1
    have h2 := h0.2
    have HE := Hid.of (show rv = true by rw [← HR.out, decide_eq_true h1, decide_eq_true h2]; rfl)
    clear h0
    go_enter Tryz.func87, Tryz.ntmps87
    go_wp2
    go_ret
    rw [HE.out]
    exact ⟨rfl, rfl⟩
  · have hd : (decide (100 ≤ z) && decide (z ≤ 199)) = false := by
      rw [Bool.and_eq_false_iff, decide_eq_false_iff_not, decide_eq_false_iff_not]; omega
    have HR2 := Hid.of (show rv = ((z == 204) || (z == 304)) by rw [← HR.out, hd]; rfl)
    clear HR hd
    cases h4 : (z == 204) with
    | true =>
      rw [h4] at HR2
      have HE := Hid.of (show rv = true from HR2.out)
      have hz : z = 204 := by simpa using h4
      subst hz
      clear h0
      go_enter Tryz.func87, Tryz.ntmps87
      go_wp2
      go_ret
      rw [HE.out]
      exact ⟨rfl, rfl⟩
    | false =>
      rw [h4] at HR2
      have HE := Hid.of (show rv = (z == 304) by rw [HR2.out]; rfl)
      by_cases h1 : 100 ≤ z
      · have h2 : ¬ z ≤ 199 := by omega
        clear h0
        go_enter Tryz.func87, Tryz.ntmps87
        go_wp2
        go_ret
        rw [HE.out]
        exact ⟨rfl, rfl⟩
      · clear h0
        go_enter Tryz.func87, Tryz.ntmps87
        go_wp2
        go_ret
        rw [HE.out]
        exact ⟨rfl, rfl⟩
end Go.Proofs.YtabpgpbcnadgcaaGreatDoor
namespace Go.Proofs.YtabpgpbcnadgcaaGreatDoor
open Go.RowKit Go.Shelf TextNum
/-- the bytes of a field's line -/
def szf (f : FD) : Nat := f.n.size + f.v.size + 4
def szs (fs : List FD) : Nat := 2 + (fs.map szf).sum
theorem szs_snoc (fs : List FD) (f : FD) : szs (fs ++ [f]) = szs fs + szf f := by simp [szs]; omega
theorem szs_take (fs : List FD) (i : Nat) : szs (fs.take i) ≤ szs fs := by
  have h : szs fs = szs (fs.take i) + ((fs.drop i).map szf).sum := by
    conv => lhs; rw [← List.take_append_drop i fs]
    unfold szs
    rw [List.map_append, List.sum_append]
    omega
  omega
theorem szs_len : ∀ fs : List FD, 4 * fs.length + 2 ≤ szs fs
  | [] => by simp [szs]
  | f :: r => by
    have h := szs_len r
    have e : szs (f :: r) = szf f + szs r := by simp [szs]; omega
    rw [e, List.length_cons]
    unfold szf
    omega
set_option maxRecDepth 100000 in
set_option maxHeartbeats 1000000 in
theorem sizeOf_walk (a : Option Addr) (fs : List FD) (c : Nat) (w : World) (h : FdL w a fs c) (hl : szs fs ≤ 1099511627776) :
    Calls Tryz.prog 100 #[.slice a fs.length c] w fun e w' => e = .returned (.int .i64 ((szs fs : Nat) : Int)) ∧ Up w w' := by
  have HF := Hid.of h
  have hcap := h.cap
  have hsl := szs_len fs
  have HT := Hid.of (fun i => szs_take fs i)
  clear h
  obtain ⟨z, hz⟩ : ∃ z, szs fs = z := ⟨_, rfl⟩
  have HZ := Hid.of hz
  rw [hz] at hl hsl HT ⊢
  clear hz
  go_enter Tryz.func100, Tryz.ntmps100
  go_wp2
  go_loopw [3, 8] (fun v3 v8 wr => ∃ i k : Nat, v8 = .int .i64 (i : Int) ∧ v3 = .int .i64 (k : Int) ∧ i ≤ fs.length ∧ k ≤ z ∧ Hid (Up w wr ∧ szs (fs.take i) = k)) (fun _ v8 _ => fs.length - (intOf v8).toNat)
  case atStart => exact ⟨0, 2, rfl, rfl, Nat.zero_le _, by omega, Hid.of ⟨Up.refl _, rfl⟩⟩
  case round =>
    obtain ⟨i, k, rfl, rfl, hi, hkz, hU⟩ := hrel
    have HU := Hid.of hU.out
    clear hU
    by_cases hil : i < fs.length
    · have hilz : (i : Int) < (fs.length : Int) := by omega
      obtain ⟨b, off, rfl, k1, k2⟩ := HF.out.cells i hil
      have HRg := Hid.of (range2 (HU.out.1.cell k1) (HU.out.1.cell k2))
      have hT := List.take_succ_eq_append_getElem hil
      obtain ⟨f, hf⟩ : ∃ f, fs[i] = f := ⟨_, rfl⟩
      rw [hf] at HRg hT
      have h5 := HT.out (i + 1)
      rw [hT, szs_snoc, HU.out.2] at h5
      have HS2 := Hid.of (show szs (fs.take (i + 1)) = k + szf f by rw [hT, szs_snoc, HU.out.2])
      unfold szf at h5
      have hn64 : ((f.n.size : Int)) ≤ 1099511627776 := by omega
      clear hf k1 k2 hT
      go_wp2_with (with_reducible show wpList _ _ _ ({ dst := _, op := Op.indexAddr 36 _ _, type := _, pos := _, after := _, guard := _ } :: _) _ _; refine Shut.out ?_)
      show wpList _ _ _ _ _ _
      refine wpList_val7 (.pointer (some ⟨b, off + i * 2, none⟩)) rfl (exec_idxFd i hil rfl rfl rfl) ?_
      simp only [Act.put, List.setIfInBounds_toArray, List.set_cons_zero, List.set_cons_succ]
      refine wpList_load_mid rfl _ _ rfl b (off + i * 2) rfl [.string f.n, .string f.v] _ HRg.out Tryz.underlying89 rfl infoFd2 ?_
      simp only [Act.put, List.setIfInBounds_toArray, List.set_cons_zero, List.set_cons_succ]
      have HUa := Hid.of (HU.out.1.alloc (.cells [.string f.n, .string f.v].toArray 89))
      go_wp2
      go_roundw
      all_goals first
        | exact ⟨i + 1, k + szf f, by go_num, by (unfold szf; go_num), by omega, by (unfold szf; omega), Hid.of ⟨HUa.out, HS2.out⟩⟩
        | (simp [intOf]; omega)
    · have hilz : ¬ (i : Int) < (fs.length : Int) := by omega
      have HTk := Hid.of (show fs.take i = fs from List.take_of_length_le (by omega))
      go_wp2
      go_ret
      have h2 := HU.out.2
      rw [HTk.out, HZ.out] at h2
      rw [h2]
      exact ⟨rfl, HU.out.1⟩
/-- are these fields of the forms that are asked for? -/
def mbf (f : FD) : Bool := tok f.n.data.toList && vlu f.v.data.toList
def ckf (fs : List FD) : Option Nat := if 64 < fs.length then some 1 else if fs.all mbf = false then some 5 else none
set_option maxRecDepth 100000 in
set_option maxHeartbeats 1000000 in
theorem checkFields_walk (ad : Nat → Addr) (a : Option Addr) (fs : List FD) (c : Nat) (w : World) (h : FdL w a fs c) (hl : szs fs ≤ 1099511627776) (hE : GE w ad) :
    Calls Tryz.prog 105 #[.slice a fs.length c] w fun e w' => e = .returned (eoV ad (ckf fs)) ∧ Up w w' := by
  have HF := Hid.of h
  have HG := Hid.of hE
  have hcap := h.cap
  have hsl := szs_len fs
  have HT := Hid.of (fun i => szs_take fs i)
  clear h hE
  obtain ⟨rv, hrv⟩ : ∃ rv, eoV ad (ckf fs) = rv := ⟨_, rfl⟩
  have HR := Hid.of hrv
  rw [hrv]
  clear hrv
  obtain ⟨z, hz⟩ : ∃ z, szs fs = z := ⟨_, rfl⟩
  rw [hz] at hl hsl HT
  clear hz
  by_cases h64 : 64 < fs.length
  · have h64z : (64 : Int) < (fs.length : Int) := by omega
    have HE := Hid.of (show rv = ev (ad 1) by rw [← HR.out]; unfold ckf; rw [if_pos h64]; rfl)
    have hgl : w.cell? ⟨2, 0, none⟩ = _ := HG.out.gl 1 (by decide)
    go_enter Tryz.func105, Tryz.ntmps105
    go_wp2
    go_ret
    rw [HE.out]
    exact ⟨rfl, Up.refl _⟩
  · have h64z : ¬ (64 : Int) < (fs.length : Int) := by omega
    have HR2 := Hid.of (show rv = eoV ad (if fs.all mbf = false then some 5 else none) by rw [← HR.out]; unfold ckf; rw [if_neg h64])
    go_enter Tryz.func105, Tryz.ntmps105
    go_wp2
    go_loopw [11] (fun v8 wr => ∃ i : Nat, v8 = .int .i64 (i : Int) ∧ i ≤ fs.length ∧ Hid (Up w wr ∧ (fs.take i).all mbf = true)) (fun v8 _ => fs.length - (intOf v8).toNat)
    case atStart => exact ⟨0, rfl, Nat.zero_le _, Hid.of ⟨Up.refl _, rfl⟩⟩
    case round =>
      obtain ⟨i, rfl, hi, hU⟩ := hrel
      have HU := Hid.of hU.out
      clear hU
      by_cases hil : i < fs.length
      · have hilz : (i : Int) < (fs.length : Int) := by omega
        obtain ⟨b, off, rfl, k1, k2⟩ := HF.out.cells i hil
        have HRg := Hid.of (range2 (HU.out.1.cell k1) (HU.out.1.cell k2))
        have HTk := Hid.of (List.take_succ_eq_append_getElem hil)
        have HMm := Hid.of (List.getElem_mem hil)
        obtain ⟨f, hf⟩ : ∃ f, fs[i] = f := ⟨_, rfl⟩
        rw [hf] at HRg HTk HMm
        have h5 := HT.out (i + 1)
        rw [HTk.out, szs_snoc] at h5
        unfold szf at h5
        clear hf k1 k2
        go_wp2_with (with_reducible show wpList _ _ _ ({ dst := _, op := Op.indexAddr 36 _ _, type := _, pos := _, after := _, guard := _ } :: _) _ _; refine Shut.out ?_)
        show wpList _ _ _ _ _ _
        refine wpList_val7 (.pointer (some ⟨b, off + i * 2, none⟩)) rfl (exec_idxFd i hil rfl rfl rfl) ?_
        simp only [Act.put, List.setIfInBounds_toArray, List.set_cons_zero, List.set_cons_succ]
        refine wpList_load_mid rfl _ _ rfl b (off + i * 2) rfl [.string f.n, .string f.v] _ HRg.out Tryz.underlying89 rfl infoFd2 ?_
        simp only [Act.put, List.setIfInBounds_toArray, List.set_cons_zero, List.set_cons_succ]
        have HAt := Hid.of (at_new wr 89 [.string f.n, .string f.v])
        have HUa := Hid.of (HU.out.1.alloc (.cells [.string f.n, .string f.v].toArray 89))
        have hfn : f.n.size ≤ 1099511627776 := by omega
        have hfv : f.v.size ≤ 1099511627776 := by omega
        go_wp2_with (with_reducible show wpList _ _ _ ({ dst := _, op := Op.load 89 _, type := _, pos := _, after := _, guard := _ } :: _) _ _; refine Shut.out ?_)
        show wpList _ _ _ _ _ _
        refine wpList_load_mid rfl _ _ rfl wr.heap.size 0 rfl [.string f.n, .string f.v] _ HAt.out.range Tryz.underlying89 rfl infoFd2 ?_
        simp only [Act.put, List.setIfInBounds_toArray, List.set_cons_zero, List.set_cons_succ]
        go_wp2_with fail
        refine (mayBeField_walk f.n f.v hfn hfv _).mono ?_
        rintro e w5 ⟨rfl, u5⟩
        have HU5 := Hid.of (HUa.out.trans u5)
        clear u5 HAt
        dsimp only
        cases hm : (tok f.n.data.toList && vlu f.v.data.toList) with
        | false =>
          have HE := Hid.of (show rv = ev (ad 5) by rw [HR2.out, if_pos (List.all_eq_false.2 ⟨f, HMm.out, by simp [mbf, hm]⟩)]; rfl)
          have hgl : w5.cell? ⟨15, 0, none⟩ = _ := (HG.out.up HU5.out).gl 5 (by decide)
          clear hm
          go_wp2
          go_ret
          rw [HE.out]
          exact ⟨rfl, HU5.out⟩
        | true =>
          have HA2 := Hid.of (show (fs.take (i + 1)).all mbf = true by rw [HTk.out, List.all_append, HU.out.2]; simp [mbf, hm])
          clear hm
          go_wp2
          go_roundw
          all_goals first
            | exact ⟨i + 1, by go_num, by omega, Hid.of ⟨HU5.out, HA2.out⟩⟩
            | (simp [intOf]; omega)
      · have hilz : ¬ (i : Int) < (fs.length : Int) := by omega
        have HTk := Hid.of (show fs.take i = fs from List.take_of_length_le (by omega))
        have HE := Hid.of (show rv = .nilIface by
          have h1 := HU.out.2
          rw [HTk.out] at h1
          rw [HR2.out, if_neg (by rw [h1]; simp)]
          rfl)
        go_wp2
        go_ret
        rw [HE.out]
        exact ⟨rfl, HU.out.1⟩
/-- the version's text -/
def vtx (m : Int) : List UInt8 := [72, 84, 84, 80, 47, 49, 46] ++ Go.Lib.itoa m
set_option maxRecDepth 100000 in
theorem versionText_walk (m : Int) (h0 : -9223372036854775808 ≤ m) (h1 : m ≤ 9223372036854775807) (w : World) (hN : GN w) : Calls Tryz.prog 57 #[.int .i64 m] w fun e w' => e = .returned (vs (vtx m)) ∧ Up w w' := by
  have HF := Hid.of (FormatNumber_walk m h0 h1 w hN)
  have hlen : ¬ 9223372036854775807 < 7 + (Go.Lib.itoa m).length := by have := itoa_len m h0 h1; omega
  clear hN
  go_enter Tryz.func57, Tryz.ntmps57
  go_wp2_with fail
  refine HF.out.mono ?_
  rintro e w2 ⟨rfl, h9⟩
  have HU := Hid.of h9
  clear h9
  dsimp only
  go_wp2
  go_ret
  refine ⟨?_, HU.out⟩
  show Ending.returned (Value.string (_ ++ _)) = _
  rw [ba_app]
  simp [vtx]
def mnr (m : Int) : Bool := m == 0 || m == 1
set_option maxRecDepth 100000 in
theorem isMinor_walk (m : Int) (w : World) : Calls Tryz.prog 104 #[.int .i64 m] w fun e w' => e = .returned (.bool (mnr m)) ∧ w' = w := by
  cases h0 : (m == 0) with
  | true =>
    go_enter Tryz.func104, Tryz.ntmps104
    go_wp2
    go_ret
    exact ⟨by unfold mnr; rw [h0]; rfl, rfl⟩
  | false =>
    go_enter Tryz.func104, Tryz.ntmps104
    go_wp2
    go_ret
    exact ⟨by unfold mnr; rw [h0]; rfl, rfl⟩
/-- the field that tells the body's length -/
def ctlN : ByteArray := ⟨#[67, 111, 110, 116, 101, 110, 116, 45, 76, 101, 110, 103, 116, 104]⟩
def lnf (n : Nat) : FD := ⟨ctlN, ⟨(Go.Lib.itoa (n : Int)).toArray⟩⟩
set_option maxRecDepth 100000 in
theorem lengthOf_walk (a : Option Addr) (n c : Nat) (hn : n ≤ 1099511627776) (w : World) (hN : GN w) : Calls Tryz.prog 53 #[.slice a n c] w fun e w' => e = .returned (.agg #[.string (lnf n).n, .string (lnf n).v]) ∧ Up w w' := by
  have HU0 := Hid.of ((Up.refl w).alloc (.cells #[.string ⟨#[]⟩, .string ⟨#[]⟩] 89))
  have HA0 := Hid.of (at_new w 89 [.string ⟨#[]⟩, .string ⟨#[]⟩])
  have HF := Hid.of (FormatNumber_walk (n : Int) (by omega) (by omega) _ (hN.up HU0.out))
  clear hN
  go_enter Tryz.func53, Tryz.ntmps53
  go_wp2_with fail
  refine HF.out.mono ?_
  rintro e w2 ⟨rfl, h9⟩
  have HU2 := Hid.of (HU0.out.trans h9)
  have HA2 := Hid.of (HA0.out.up h9)
  clear h9
  dsimp only
  go_wp2_with (with_reducible show wpList _ _ _ ({ dst := _, op := Op.store 89 _ _, type := _, pos := _, after := _, guard := _ } :: _) _ _; refine Shut.out ?_)
  show wpList _ _ _ _ _ _
  refine wpList_store_at rfl 89 _ _ rfl w.heap.size HA2.out [.string (lnf n).n, .string (lnf n).v] rfl rfl rfl (by kernel_rfl) (by kernel_rfl) ?_
  intro w8 hA8 hg8
  have HA8 := Hid.of hA8
  have HU8 := Hid.of (HU2.out.by hg8 (fun g hg => by have := Option.some.inj hg; omega))
  clear hA8 hg8
  simp only [Act.put]
  repeat go_step
  refine bodyPost_ret (results_agg1 Tryz.results53 _ _ w.heap.size [.string (lnf n).n, .string (lnf n).v] rfl HA8.out.range Tryz.underlying89 rfl (by kernel_rfl)) rfl ?_
  exact ⟨rfl, HU8.out⟩
end Go.Proofs.YtabpgpbcnadgcaaGreatDoor
