import Derived.Test.YtkaoalcffgnfeaaGreatDoorYz
import Derived.BigRegionIn
namespace Go.Proofs.YtkaoalcffgnfeaaGreatDoor
open Go.RowKit Go.Shelf TextNum
attribute [local go_sem] Oper.semAt_some
def fln (ln : List UInt8) : FD := ⟨⟨(c1 58 (tcr ln)).toArray⟩, ⟨(trm (c2 58 (tcr ln))).toArray⟩⟩
def fok (ln : List UInt8) : Bool := (Go.Lib.cut (tcr ln) [58]).2.2 && (tok (c1 58 (tcr ln)) && vlu (trm (c2 58 (tcr ln))))
def rdf (l : List UInt8) : Er (List FD) := if 64 < Go.Lib.countByte l 10 then .error 1 else if (linesOf l).all fok = true then .ok ((linesOf l).map fln) else .error 5
theorem tcr_suf (l : List UInt8) : Go.Lib.trimSuffix l [13] = tcr l := by
 unfold Go.Lib.trimSuffix tcr
 have h : Go.Lib.hasSuffix l [13] = decide (l.getLast? = some 13) := by
  rw [Bool.eq_iff_iff, decide_eq_true_eq]
  unfold Go.Lib.hasSuffix
  rw [List.isSuffixOf_iff_suffix]
  constructor
  · rintro ⟨t, rfl⟩; simp
  · intro h
    obtain ⟨t, ht⟩ := List.getLast?_eq_some_iff.1 h
    exact ⟨t, ht.symm⟩
 rw [h]
 by_cases hl : l.getLast? = some 13
 · rw [if_pos (decide_eq_true hl), if_pos hl, List.dropLast_eq_take]
   rfl
 · rw [if_neg (by simpa using hl), if_neg hl]
theorem TrimCr_walk (s : ByteArray) (hs : s.size ≤ 1048576) (w : World) : Calls Tryz.prog 108 #[.string s, .string ⟨#[13]⟩] w fun e w' => e = .returned (vs (tcr s.data.toList)) ∧ w' = w := by
 have h := Any.strings_TrimSuffix Tryz.lays102 s ⟨#[13]⟩ w (by omega)
 rw [show (⟨#[13]⟩ : ByteArray).data.toList = [13] from rfl, tcr_suf] at h
 exact h
theorem Up.keeps {W W' : World} (h : Up W W') (B : Nat) : KeepsFrom B W W' := ⟨h.size, fun k _ _ hk _ => (h.block k (lt_of_at hk)).trans hk⟩
theorem Boxed.up {W W' : World} {B : Nat} {t : TypeId} {v : Value} (h : Boxed W B t v) (k : Up W W') : Boxed W' B t v := (k.block B h.lt).trans h
def rdR (ad : Nat → Addr) (w w' : World) (e : Ending) : Er (List FD) → Prop
 | .error k => e = .returned (.tuple #[.slice none 0 0, ev (ad k)])
 | .ok fs => ∃ a c, e = .returned (.tuple #[.slice a fs.length c, .nilIface]) ∧ Hd (FdO w' w.heap.size a fs c)
def fls (pre : List LnS) : List FD := pre.map fun x => fln x.1.2
theorem fd_new (w : World) (nm vl : ByteArray) : ∀ j u, [Value.string nm, Value.string vl][j]? = some u → (w.alloc (.cells #[.string nm, .string vl] 87)).cell? ((⟨w.heap.size, 0, none⟩ : Addr).add j) = some u := fun j u hu => by
 rw [Addr.add_lit]
 exact At.cell (at_new w 87 [.string nm, .string vl]) (i := 0 + j) (by rw [Nat.zero_add]; exact hu)
theorem rd_fin {w W : World} {D : Nat} {a : Option Addr} {n c : Nat} {fs : List FD} {ad : Nat → Addr} (hD : w.heap.size + 1 < D) (hK : W.heap[D]? = some (.deferred (some []))) (hrow : W.ownsRow w.heap.size 87 2 (.slice a n c) fs.length (fdc fs)) (hB : Below w.heap.size w W)
 (c2 : Boxed W w.heap.size 34 (.slice none 0 0)) (c3 : Boxed W (w.heap.size + 1) 73 .nilIface) (tmps : Array Value) (h2 : tmps.getD 2 undef = .pointer (some ⟨w.heap.size, 0, none⟩)) (h3 : tmps.getD 3 undef = .pointer (some ⟨w.heap.size + 1, 0, none⟩)) :
 ∃ r, (results Tryz.f69 tmps).run Tryz.prog ((((W.setCell ⟨w.heap.size, 0, none⟩ (.slice a n c)).setCell ⟨w.heap.size + 1, 0, none⟩ .nilIface).putObj D (.deferred none))) = .ok r ((((W.setCell ⟨w.heap.size, 0, none⟩ (.slice a n c)).setCell ⟨w.heap.size + 1, 0, none⟩ .nilIface).putObj D (.deferred none))) ∧
  rdR ad w ((((W.setCell ⟨w.heap.size, 0, none⟩ (.slice a n c)).setCell ⟨w.heap.size + 1, 0, none⟩ .nilIface).putObj D (.deferred none))) (.returned r) (.ok fs) ∧ Up w ((((W.setCell ⟨w.heap.size, 0, none⟩ (.slice a n c)).setCell ⟨w.heap.size + 1, 0, none⟩ .nilIface).putObj D (.deferred none))) := by
 have G1 := grownBy_setCell' W w.heap.size (.slice a n c)
 have G2 := grownBy_setCell' (W.setCell ⟨w.heap.size, 0, none⟩ (.slice a n c)) (w.heap.size + 1) .nilIface
 have hK' : ((W.setCell ⟨w.heap.size, 0, none⟩ (.slice a n c)).setCell ⟨w.heap.size + 1, 0, none⟩ .nilIface).heap[D]? = some (.deferred (some [])) := by
  rw [Below.heap_setCell _ _ _ _ (by show D ≠ w.heap.size + 1; omega), Below.heap_setCell _ _ _ _ (by show D ≠ w.heap.size; omega)]; exact hK
 have G3 := grownBy_putObj' ((W.setCell ⟨w.heap.size, 0, none⟩ (.slice a n c)).setCell ⟨w.heap.size + 1, 0, none⟩ .nilIface) D (.deferred none)
 have g2 := ((c2.set (.slice a n c)).kept G2 (by simp)).kept G3 (by simp; omega)
 have g3 := ((c3.kept G1 (by simp)).set .nilIface).kept G3 (by simp; omega)
 have n2 := c2.not_row (by decide) hrow
 have n3 := c3.not_row (by decide) hrow
 have r1 := hrow.kept G1 (.inr fun h => n2 h.symm)
 have r2 := r1.kept G2 (.inr fun h => n3 h.symm)
 have r3 := ownsRow_putObj r2 (.deferred none) hK' rfl
 have B3 : Below w.heap.size w (((W.setCell ⟨w.heap.size, 0, none⟩ (.slice a n c)).setCell ⟨w.heap.size + 1, 0, none⟩ .nilIface).putObj D (.deferred none)) := (((hB.setCell (p := ⟨w.heap.size, 0, none⟩) (by simp) _).setCell (p := ⟨w.heap.size + 1, 0, none⟩) (by show w.heap.size ≤ w.heap.size + 1; omega) _)).trans (belowK_b (w := w) (Nat.le_refl _) _ D _ _ (by omega) hK' rfl rfl)
 have hn : n = fs.length := by
  rcases hrow.2 with ⟨e, h0⟩ | ⟨g, cap, cur, e, _⟩
  · injection e with _ e _
    omega
  · injection e with _ e _
 subst hn
 exact ⟨_, results_cell2 rfl tmps _ _ _ _ _ h2 h3 g2.cell g3.cell Tryz.underlying34 rfl Tryz.underlying73 rfl, ⟨a, c, rfl, Ho r3⟩, B3⟩
def RB (w : World) (pre : List LnS) (W : World) : Prop :=
 ((∃ v, Boxed W (w.heap.size + 1 + 1) 34 v ∧ W.ownsRow w.heap.size 87 2 v (fls pre).length (fdc (fls pre)) ∧ True) ∧ Below w.heap.size w W) ∧ (Boxed W w.heap.size 34 (.slice none 0 0) ∧ Boxed W (w.heap.size + 1) 73 .nilIface)
theorem RB_own (w : World) (n : Nat) (hn : w.heap.size ≤ n) : OwnFrom n (RB w) :=
 OwnFrom.and (OwnFrom.and (Own.from (holdsRow_own w.heap.size (w.heap.size + 1 + 1) 34 87 2 (fun pre : List LnS => (fls pre).length) (fun pre => fdc (fls pre)) (fun _ _ => True)) _) (ownFrom_below (Nat.le_refl _) hn)) (OwnFrom.and (boxed_own _ _ _ _) (boxed_own _ _ _ _))
def RX (ad : Nat → Addr) (w : World) (W : World) : Prop := Boxed W w.heap.size 34 (.slice none 0 0) ∧ Boxed W (w.heap.size + 1) 73 (ev (ad 5)) ∧ Below w.heap.size w W
theorem RX_own (ad : Nat → Addr) (w : World) (n : Nat) (hn : w.heap.size ≤ n) : OwnFrom (β := List LnS) n (fun _ W => RX ad w W) :=
 OwnFrom.and (boxed_own _ _ _ _) (OwnFrom.and (boxed_own _ _ _ _) (ownFrom_below (Nat.le_refl _) hn))
set_option maxRecDepth 100000 in
set_option maxHeartbeats 2000000 in
theorem readFields_walk (ad : Nat → Addr) (s : ByteArray) (hs : s.size ≤ 16384) (w : World) (h : GE w ad) : Calls Tryz.prog 69 #[.string s] w fun e w' => rdR ad w w' e (rdf s.data.toList) ∧ Up w w' := by
 have HG := Ho h
 clear h
 have HCt := Ho (fun w2 => Any.strings_Count_one Tryz.lays138 s 10 w2)
 have hcn : Go.Lib.countByte s.data.toList 10 ≤ 1048576 := by
  have h1 : Go.Lib.countByte s.data.toList 10 ≤ s.data.toList.length := List.count_le_length
  rw [← Go.Lib.size_eq] at h1
  omega
 have HRd := Ho (show rdf s.data.toList = if 64 < Go.Lib.countByte s.data.toList 10 then .error 1 else if (linesOf s.data.toList).all fok = true then .ok ((linesOf s.data.toList).map fln) else .error 5 from rfl)
 generalize Go.Lib.countByte s.data.toList 10 = cn at *
 refine (callsIn_wide (n := 4)).1 ?_
 refine callsIn_of_wp_marks Tryz.func69 rfl trivial ?_ rfl
 simp only [Tryz.ntmps69, List.size_toArray, List.length_cons, List.length_nil, Nat.reduceAdd, Nat.reduceSub, Array.replicate_succ, Array.replicate_zero, List.push_toArray, List.append_toArray, List.nil_append, List.cons_append]
 gi_wp2_with fail
 refine ⟨trivial, ?_⟩
 refine (callsIn_wide.2 (HCt.o _)).mono ?_
 rintro e w' ⟨rfl, hw⟩
 obtain rfl := hw.symm
 dsimp only
 have b2 := (Boxed.new w 34 (.slice none 0 0)).alloc (.cells #[.nilIface] 73)
 have b3 := Boxed.new (w.alloc (.cells #[.slice none 0 0] 34)) 73 .nilIface
 rw [World.size_alloc] at b3
 have hU : Up w ((w.alloc (.cells #[.slice none 0 0] 34)).alloc (.cells #[.nilIface] 73)) := ((Up.refl w).alloc _).alloc _
 have hsz : ((w.alloc (.cells #[.slice none 0 0] 34)).alloc (.cells #[.nilIface] 73)).heap.size = w.heap.size + 1 + 1 := by simp
 generalize ((w.alloc (.cells #[.slice none 0 0] 34)).alloc (.cells #[.nilIface] 73)) = W1 at *
 have HB := Ho (And.intro b2 (And.intro b3 hU))
 clear b2 b3 hU
 by_cases h64 : 64 < cn
 · have h64z : (64 : Int) < (cn : Int) := by omega
   have HE := Ho (show rdf s.data.toList = .error 1 by rw [HRd.o, if_pos h64])
   have hgl : W1.cell? ⟨2, 0, none⟩ = _ := (HG.o.up HB.o.2.2).gl 1 (by decide)
   have k2 := HB.o.1.cell
   have f2 := HB.o.1.frozen
   have k3 := HB.o.2.1.cell
   have f3 := HB.o.2.1.frozen
   have HU3 := Ho (HB.o.2.2.by (grownBy_setCell' W1 w.heap.size (.slice none 0 0)) (fun g hg => by have := Option.some.inj hg; omega))
   have hgl2 : (W1.setCell ⟨w.heap.size, 0, none⟩ (.slice none 0 0)).cell? ⟨2, 0, none⟩ = _ := (HG.o.up HU3.o).gl 1 (by decide)
   have B3 := Ho (HB.o.2.1.kept (grownBy_setCell' W1 w.heap.size (.slice none 0 0)) (by simp))
   have B2 := Ho (HB.o.1.set (.slice none 0 0))
   have k4 := B3.o.cell
   have f4 := B3.o.frozen
   gi_wp2
   gi_region
   all_goals (have B5 := Ho ((B3.o.set (ev (ad 1)))))
   all_goals (have B4 := Ho (B2.o.kept (grownBy_setCell' (W1.setCell ⟨w.heap.size, 0, none⟩ (.slice none 0 0)) (w.heap.size + 1) (ev (ad 1))) (by simp)))
   all_goals (have HU6 := Ho (HU3.o.by (grownBy_setCell' (W1.setCell ⟨w.heap.size, 0, none⟩ (.slice none 0 0)) (w.heap.size + 1) (ev (ad 1))) (fun g hg => by have := Option.some.inj hg; omega)))
   all_goals gi_wp2
   rw [HE.o]
   exact ⟨_, results_cell2 rfl _ _ _ _ _ _ rfl rfl B4.o.cell B5.o.cell Tryz.underlying34 rfl Tryz.underlying73 rfl, rfl, HU6.o.drew⟩
 · have h64z : ¬ (64 : Int) < (cn : Int) := by omega
   have HR2 := Ho (show rdf s.data.toList = if (linesOf s.data.toList).all fok = true then .ok ((linesOf s.data.toList).map fln) else .error 5 by rw [HRd.o, if_neg h64])
   clear h64 HRd HCt
   gi_wp2_with fail
   refine ⟨trivial, ?_⟩
   refine (callsIn_wide.2 (each_in s _)).mono ?_
   rintro e w' ⟨rfl, hw⟩
   obtain rfl := hw.symm
   dsimp only
   have c2 := (HB.o.1.alloc (.cells #[.slice none 0 0] 34)).alloc (.cells #[.string s] 9)
   have c3 := (HB.o.2.1.alloc (.cells #[.slice none 0 0] 34)).alloc (.cells #[.string s] 9)
   have c4 := (Boxed.new W1 34 (.slice none 0 0)).alloc (.cells #[.string s] 9)
   have c5 := Boxed.new (W1.alloc (.cells #[.slice none 0 0] 34)) 9 (.string s)
   have hU5 : Up w ((W1.alloc (.cells #[.slice none 0 0] 34)).alloc (.cells #[.string s] 9)) := (HB.o.2.2.alloc _).alloc _
   rw [World.size_alloc] at c5
   have hsz5 : ((W1.alloc (.cells #[.slice none 0 0] 34)).alloc (.cells #[.string s] 9)).heap.size = w.heap.size + 1 + 1 + 1 + 1 := by simp [hsz]
   simp only [World.size_alloc, hsz] at c4 c5 ⊢
   generalize ((W1.alloc (.cells #[.slice none 0 0] 34)).alloc (.cells #[.string s] 9)) = W5 at *
   have h00 : RB w [] W5 := ⟨⟨⟨_, c4, World.ownsRow_nil _ _ _ _, trivial⟩, hU5⟩, c2, c3⟩
   clear c2 c3 c4 hU5 HB hsz W1
   gi_wp2_with fail
   refine wpIn_rangeFunc_ownG rfl (by decide) (gf := 135) (lb := #[.pointer (some ⟨w.heap.size + 1 + 1 + 1, 0, none⟩)]) rfl trivial (enters_of Tryz.func135 (by kernel_rfl) rfl)
    (each_stops2 3 (by decide) (w.heap.size + 1 + 1 + 1) w.heap.size s hs W5 (by omega) c5.cell) belowK_t (belowK_b (by omega)) (Below.refl _ _) (fun _ => rfl)
    (fun (pre : List LnS) W => (pre.all fun x => fok x.1.2) = true ∧ RB w pre W)
    (fun c pre W => (c = .ret ∧ (pre.all fun x => fok x.1.2) = false) ∧ RX ad w W)
    (fun s W W' row hs hg hr => ⟨hs.1, RB_own w W5.heap.size (by omega) s W W' row hs.2 hg hr⟩)
    (fun c s W W' row hs hg hr => ⟨hs.1, RX_own ad w W5.heap.size (by omega) s W W' row hs.2 hg hr⟩)
    ⟨rfl, h00⟩
    (fun x => { tmps := #[.string s, undef, .pointer (some ⟨w.heap.size, 0, none⟩), .pointer (some ⟨w.heap.size + 1, 0, none⟩), .pointer (some ⟨w.heap.size + 1 + 1, 0, none⟩), undef, .string ⟨x.1.2.toArray⟩, undef, undef, undef, undef, .string s, .int .i64 (cn : Int), .bool false, undef, .string s, .func (.func 135) #[] #[.pointer (some ⟨w.heap.size + 1 + 1 + 1, 0, none⟩)], .int .i64 (x.1.1 : Int), .string ⟨x.1.2.toArray⟩, undef, undef, undef, undef, undef, undef, undef, undef, undef, undef, undef, undef, undef, undef, undef, undef, undef, undef, undef, undef, undef, undef, undef, undef], defers := [] }) ?assign ?body ?done ?stop
   case assign =>
    intro l x W K hK
    gi_wp2
    exact hK
   case body =>
    rintro l pre x W ⟨hall, hb⟩ hlt
    obtain ⟨⟨⟨v, hv, hrow, _⟩, hB⟩, e2, e3⟩ := hb
    obtain ⟨⟨k, y⟩, hy⟩ := x
    dsimp only at hy ⊢
    have hys : (⟨y.toArray⟩ : ByteArray).size ≤ 1048576 := by rw [str_len]; omega
    gi_wp2_with fail
    refine ⟨trivial, ?_⟩
    refine (CallsIn.inRound l (callsIn_wide.2 (TrimCr_walk ⟨y.toArray⟩ hys W))).mono ?_
    rintro e w' ⟨rfl, hw⟩
    obtain rfl := hw.symm
    dsimp only
    gi_wp2_with fail
    have hcl := c_len 58 (tcr y)
    have htl := tcr_len y
    refine ⟨trivial, ?_⟩
    refine (CallsIn.inRound l (callsIn_wide.2 (Cut_up ⟨(tcr y).toArray⟩ (by rw [str_len]; omega) 58 W))).mono ?_
    rintro e w2 ⟨rfl, h9⟩
    have HU2 := Ho h9
    clear h9
    dsimp only
    gi_wp2_with fail
    refine ⟨trivial, ?_⟩
    refine (CallsIn.inRound l (callsIn_wide.2 (trim_walk ⟨(c2 58 (tcr y)).toArray⟩ (by rw [str_len]; omega) w2))).mono ?_
    rintro e w3 ⟨rfl, h9⟩
    have HU3' := Ho (HU2.o.trans h9)
    clear h9 HU2
    dsimp only
    have HFk := Ho (show fok y = ((Go.Lib.cut (tcr y) [58]).2.2 && (tok (c1 58 (tcr y)) && vlu (trm (c2 58 (tcr y))))) from rfl)
    have HFl := Ho (show fln y = ⟨⟨(c1 58 (tcr y)).toArray⟩, ⟨(trm (c2 58 (tcr y))).toArray⟩⟩ from rfl)
    have htr := trm_len (c2 58 (tcr y))
    obtain ⟨nm, hnm⟩ := ny (⟨(c1 58 (tcr y)).toArray⟩ : ByteArray)
    obtain ⟨vl, hvl⟩ := ny (⟨(trm (c2 58 (tcr y))).toArray⟩ : ByteArray)
    have hnd : c1 58 (tcr y) = nm.data.toList := by rw [← hnm]
    have hvd : trm (c2 58 (tcr y)) = vl.data.toList := by rw [← hvl]
    have hns : nm.size ≤ 1048576 := by rw [Go.Lib.size_eq, ← hnd]; omega
    have hvs : vl.size ≤ 1048576 := by rw [Go.Lib.size_eq, ← hvd]; omega
    rw [hnm, hvl] at HFl
    rw [hnd, hvd] at HFk
    rw [hnd, hvd, vs_data', vs_data']
    generalize (Go.Lib.cut (tcr y) [58]).2.2 = ok at *
    generalize c2 58 (tcr y) = c2y at *
    generalize tcr y = ty at *
    clear hnm hvl hnd hvd htr hcl htl
    have HA3 := Ho (at_new w3 87 [.string nm, .string vl])
    have HUW := Ho (HU3'.o.alloc (.cells #[.string nm, .string vl] 87))
    have HBx := Ho (And.intro (Boxed.up e2 HUW.o) (And.intro (Boxed.up e3 HUW.o) (Up.trans hB HUW.o)))
    cases ok with
    | false =>
     have hF : fok y = false := by rw [HFk.o]; rfl
     have hgl : (w3.alloc (.cells #[.string nm, .string vl] 87)).cell? ⟨13, 0, none⟩ = _ := (HG.o.up HBx.o.2.2).gl 5 (by decide)
     have k2 := HBx.o.1.cell
     have f2 := HBx.o.1.frozen
     have k3 := HBx.o.2.1.cell
     have f3 := HBx.o.2.1.frozen
     have HU3 := Ho (HBx.o.2.2.by (grownBy_setCell' (w3.alloc (.cells #[.string nm, .string vl] 87)) w.heap.size (.slice none 0 0)) (fun g hg => by have := Option.some.inj hg; omega))
     have hgl2 : ((w3.alloc (.cells #[.string nm, .string vl] 87)).setCell ⟨w.heap.size, 0, none⟩ (.slice none 0 0)).cell? ⟨13, 0, none⟩ = _ := (HG.o.up HU3.o).gl 5 (by decide)
     have B3 := Ho (HBx.o.2.1.kept (grownBy_setCell' (w3.alloc (.cells #[.string nm, .string vl] 87)) w.heap.size (.slice none 0 0)) (by simp))
     have B2 := Ho (HBx.o.1.set (.slice none 0 0))
     have k4 := B3.o.cell
     have f4 := B3.o.frozen
     have B5 := Ho (B3.o.set (ev (ad 5)))
     have B4 := Ho (B2.o.kept (grownBy_setCell' ((w3.alloc (.cells #[.string nm, .string vl] 87)).setCell ⟨w.heap.size, 0, none⟩ (.slice none 0 0)) (w.heap.size + 1) (ev (ad 5))) (by simp))
     have HU6 := Ho (HU3.o.by (grownBy_setCell' ((w3.alloc (.cells #[.string nm, .string vl] 87)).setCell ⟨w.heap.size, 0, none⟩ (.slice none 0 0)) (w.heap.size + 1) (ev (ad 5))) (fun g hg => by have := Option.some.inj hg; omega))
     gi_wp2
     refine ⟨trivial, ?_⟩
     gi_wp2
     gi_region
     all_goals gi_wp2
     all_goals refine ⟨(HUW.o.keeps _).trans ((((KeepsOthers.setCell (w3.alloc (.cells #[.string nm, .string vl] 87)) _ _).trans (KeepsOthers.setCell _ _ _)).trans (KeepsOthers.drew _)).from _), ⟨rfl, ?_⟩, B4.o, B5.o, HU6.o.drew⟩
     all_goals rw [List.all_append]
     all_goals simp [hF]
    | true =>
     have HMb := Ho (mayBeField_walk nm vl (by omega) (by omega) (w3.alloc (.cells #[.string nm, .string vl] 87)))
     gi_wp2_with fail
     refine ⟨trivial, ?_⟩
     refine (CallsIn.inRound l (callsIn_wide.2 HMb.o)).mono ?_
     rintro e w4 ⟨rfl, h9⟩
     have HUW4 := Ho (HUW.o.trans h9)
     have HA4 := Ho (HA3.o.up h9)
     clear h9 HMb HA3 HUW HBx
     dsimp only
     have HBy := Ho (And.intro (Boxed.up e2 HUW4.o) (And.intro (Boxed.up e3 HUW4.o) (Up.trans hB HUW4.o)))
     cases hmf : (tok nm.data.toList && vlu vl.data.toList) with
     | false =>
      have hF : fok y = false := by rw [HFk.o, hmf]; rfl
      clear hmf
      have hgl : (w4).cell? ⟨13, 0, none⟩ = _ := (HG.o.up HBy.o.2.2).gl 5 (by decide)
      have k2 := HBy.o.1.cell
      have f2 := HBy.o.1.frozen
      have k3 := HBy.o.2.1.cell
      have f3 := HBy.o.2.1.frozen
      have HU3 := Ho (HBy.o.2.2.by (grownBy_setCell' (w4) w.heap.size (.slice none 0 0)) (fun g hg => by have := Option.some.inj hg; omega))
      have hgl2 : ((w4).setCell ⟨w.heap.size, 0, none⟩ (.slice none 0 0)).cell? ⟨13, 0, none⟩ = _ := (HG.o.up HU3.o).gl 5 (by decide)
      have B3 := Ho (HBy.o.2.1.kept (grownBy_setCell' (w4) w.heap.size (.slice none 0 0)) (by simp))
      have B2 := Ho (HBy.o.1.set (.slice none 0 0))
      have k4 := B3.o.cell
      have f4 := B3.o.frozen
      have B5 := Ho (B3.o.set (ev (ad 5)))
      have B4 := Ho (B2.o.kept (grownBy_setCell' ((w4).setCell ⟨w.heap.size, 0, none⟩ (.slice none 0 0)) (w.heap.size + 1) (ev (ad 5))) (by simp))
      have HU6 := Ho (HU3.o.by (grownBy_setCell' ((w4).setCell ⟨w.heap.size, 0, none⟩ (.slice none 0 0)) (w.heap.size + 1) (ev (ad 5))) (fun g hg => by have := Option.some.inj hg; omega))
      gi_wp2
      gi_region
      all_goals gi_wp2
      all_goals refine ⟨(HUW4.o.keeps _).trans ((((KeepsOthers.setCell (w4) _ _).trans (KeepsOthers.setCell _ _ _)).trans (KeepsOthers.drew _)).from _), ⟨rfl, ?_⟩, B4.o, B5.o, HU6.o.drew⟩
      all_goals rw [List.all_append]
      all_goals simp [hF]
     | true =>
      have hF : fok y = true := by rw [HFk.o, hmf]; rfl
      clear hmf
      have HV4 := Ho (Boxed.up hv HUW4.o)
      have HR4 := Ho (ow_up hrow HUW4.o)
      have hc4 := HV4.o.cell
      have ha0 : w4.cell? ⟨w3.heap.size, 0, none⟩ = some (.string nm) := HA4.o.cell (i := 0) rfl
      have ha1 : w4.cell? ⟨w3.heap.size, 1, none⟩ = some (.string vl) := HA4.o.cell (i := 1) rfl
      obtain ⟨av, cv, rfl⟩ : ∃ a c, v = .slice a (fls pre).length c := by
       rcases hrow.2 with ⟨rfl, e⟩ | ⟨g, cap, cur, rfl, _⟩
       · exact ⟨none, 0, by rw [e]⟩
       · exact ⟨_, _, rfl⟩
      have hfl : (fls pre).length = pre.length := by simp [fls]
      have hll := lines_len s.data.toList
      rw [← Go.Lib.size_eq] at hll
      have HW4s := Ho (show w.heap.size ≤ w4.heap.size from Nat.le_trans hB.size HUW4.o.size)
      have HFs := Ho (show fls (pre ++ [⟨(k, y), hy⟩]) = fls pre ++ [⟨nm, vl⟩] by simp [fls, HFl.o])
      obtain ⟨i1, hi1, hz0, hz1, hz2⟩ := info_parts Tryz.infoFd
      have hsn : (fls pre).length ≤ 16384 := by rw [hfl]; omega
      obtain ⟨nf, hnf⟩ := ny ((fls pre).length)
      have HNf := Ho hnf
      rw [hnf] at hsn HR4 hc4 HV4
      clear hfl hnf
      gi_wp2_with (gi_at_builtin; refine wpListIn_append_own _ rfl _ _ 34 rfl w.heap.size 87 i1 (.agg #[.string ⟨#[]⟩, .string ⟨#[]⟩]) 2 32 Tryz.underlying34 hi1 hz0 hz1 hz2 rfl (by decide) _ _ _ rfl (HR4.o.alloc _) ⟨w4.heap.size, 0, none⟩ 1 1 [.string nm, .string vl] rfl rfl (fd_new w4 nm vl) (by simp [Value.oneCell']) (by unfold maxLen; omega) (by omega) (by have := HW4s.o; simp; omega) ?_; intro v' w5 hown' hgrow' _; obtain ⟨g', cap', rfl⟩ := ownsRow_succ hown'; obtain ⟨hv1, hv2, hr2, hk2, hb2⟩ := HV4.o.appended (by decide) HR4.o HW4s.o (by omega) hown' hgrow'; have hc1 := hv1.cell; have hf1 := hv1.frozen; have f2 := ((HBy.o.1.alloc _).kept hgrow' (HBy.o.1.not_row (by decide) HR4.o)).kept (grownBy_setCell' w5 (w.heap.size + 1 + 1) (.slice (some ⟨g', 0, none⟩) (nf + 1) cap')) (by simp; omega); have f3 := ((HBy.o.2.1.alloc _).kept hgrow' (HBy.o.2.1.not_row (by decide) HR4.o)).kept (grownBy_setCell' w5 (w.heap.size + 1 + 1) (.slice (some ⟨g', 0, none⟩) (nf + 1) cap')) (by simp))
      refine ⟨(HUW4.o.keeps _).trans (hk2.from _), (HUW4.o.mono hB.size).trans hb2, ?_, ⟨⟨⟨_, hv2, ?_, trivial⟩, (hB.trans (HUW4.o.mono hB.size)).trans hb2⟩, f2, f3⟩⟩
      · rw [List.all_append, hall]
        simp [hF]
      · rw [HFs.o, fdc_snoc, List.length_append, HNf.o]
        exact hr2
   case done =>
    rintro D ys W hD hys ⟨hall, hb⟩ hK
    obtain ⟨⟨⟨v, hv, hrow, _⟩, hB⟩, e2, e3⟩ := hb
    obtain ⟨av, nv, cv, rfl⟩ : ∃ a n c, v = .slice a n c := by
     rcases hrow.2 with ⟨rfl, e⟩ | ⟨g, cap, cur, rfl, _⟩
     · exact ⟨none, 0, 0, rfl⟩
     · exact ⟨_, _, _, rfl⟩
    have hc := hv.cell
    have hc2 := e2.cell
    have hf2 := e2.frozen
    have hc3 := (e3.kept (grownBy_setCell' W w.heap.size (.slice av nv cv)) (by simp)).cell
    have hf3 := (e3.kept (grownBy_setCell' W w.heap.size (.slice av nv cv)) (by simp)).frozen
    gi_wp2
    refine ⟨by simp, .inl ⟨_, _, rfl, run_takeDeferred ?_, ?_⟩⟩
    · rw [Below.heap_setCell _ _ _ _ (by show D ≠ w.heap.size + 1; omega), Below.heap_setCell _ _ _ _ (by show D ≠ w.heap.size; omega)]; exact hK
    · have hyl : ys.map (fun x => x.1.2) = linesOf s.data.toList := by
       have h1 := congrArg (List.map (·.2)) hys
       rw [ixn_map, List.map_map] at h1
       exact h1
      have hfl : fls ys = (linesOf s.data.toList).map fln := by
       rw [← hyl, List.map_map]; rfl
      have hal : (linesOf s.data.toList).all fok = true := by
       rw [← hyl, List.all_map]; exact hall
      rw [HR2.o, if_pos hal]
      rw [hfl] at hrow
      exact rd_fin (by omega) hK hrow hB e2 e3 _ rfl rfl
   case stop =>
    rintro D c pre W hD ⟨r, hr⟩ ⟨⟨rfl, hall⟩, hX⟩ hK
    gi_wp2
    refine ⟨by simp, .inl ⟨_, _, rfl, run_takeDeferred hK, ?_⟩⟩
    have hal : ¬ (linesOf s.data.toList).all fok = true := by
     intro h1
     have h2 := congrArg (List.map (·.2)) hr
     rw [ixn_map, List.map_append, List.map_map] at h2
     rw [h2, List.all_append, List.all_map] at h1
     rw [Bool.and_eq_true] at h1
     have h3 : (pre.all fun x => fok x.1.2) = true := h1.1
     rw [hall] at h3
     cases h3
    rw [HR2.o, if_neg hal]
    have g2 := hX.1.kept (grownBy_putObj' W D (.deferred none)) (by have := hX.1.lt; simp; omega)
    have g3 := hX.2.1.kept (grownBy_putObj' W D (.deferred none)) (by have := hX.2.1.lt; simp; omega)
    exact ⟨_, results_cell2 rfl _ _ _ _ _ _ rfl rfl g2.cell g3.cell Tryz.underlying34 rfl Tryz.underlying73 rfl, rfl, hX.2.2.trans (belowK_b (w := w) (Nat.le_refl _) _ D _ _ (by omega) hK rfl rfl)⟩
end Go.Proofs.YtkaoalcffgnfeaaGreatDoor
namespace Go.Proofs.YtkaoalcffgnfeaaGreatDoor
open Go.RowKit Go.Shelf TextNum
theorem result_cell_tmp2 {P : Program} {fn : Func} {q q2 q3 : Tmp} {T : TypeId} (h : fn.results = #[.cell q T, .tmp q2, .tmp q3]) (tmps : Array Value) (w : World) (b : Nat) (cs : List Value) (v v3 : Value) {d : TypeDesc}
 (hp : tmps.getD q undef = .pointer (some ⟨b, 0, none⟩)) (hv : tmps.getD q2 undef = v) (hv3 : tmps.getD q3 undef = v3) (hc : w.rangeAt b 0 cs) (hu : P.underlying T = some d) (hd : d.isRow = true) (hi : (P.info? T).map (·.size) = some cs.length) : (results fn tmps).run P w = .ok (.tuple #[.agg cs.toArray, v, v3]) w := by
 have hp' : tmps[q]?.getD undef = .pointer (some ⟨b, 0, none⟩) := by simpa using hp
 have hv' : tmps[q2]?.getD undef = v := by simpa using hv
 have hv3' : tmps[q3]?.getD undef = v3 := by simpa using hv3
 simp [results, h, hp', hv', hv3', asAddr, run_loadVar_mid w b 0 T cs _ hc hu hd hi]
theorem er_neq (ad : Nat → Addr) (k : Nat) : ∀ w, (binOp .neq 73 (erV ad k) .nilIface).run Tryz.prog w = .ok (.bool true) w := by
 intro w
 unfold erV
 split <;> kernel_rfl
theorem er_grd (ad : Nat → Addr) (k : Nat) : ∀ x y w, (eqGuard .neq 73 x y (erV ad k) .nilIface).run Tryz.prog w = .ok () w := by
 intro x y w
 unfold erV
 split <;> kernel_rfl
theorem exec_load6 {o : Oper} {ρ : Operand → Value} {x : Operand} {w : World} {b : Nat} {cs : List Value} (ho : o.op = .load 36 x) (hx : ρ x = .pointer (some ⟨b, 0, none⟩)) (h : w.rangeAt b 0 cs) (hl : (Tryz.prog.info? 36).map (·.size) = some cs.length := by kernel_rfl) : (execOp ρ o).run Tryz.prog w = .ok (.value (.agg cs.toArray)) w := by
 unfold execOp
 simp only [ho, hx]
 have := run_loadAt_mid (P := Tryz.prog) w b 0 36 cs _ h Tryz.underlying36 rfl hl
 simp [this]
theorem Sb.shape {w : World} {v : Value} {ds : List UInt8} (h : Sb w v ds) : ∃ a n c, v = .slice a n c := by
 obtain ⟨a, c, e, _⟩ := h
 exact ⟨a, _, c, e⟩
theorem lines_small (l : List UInt8) : ∀ x ∈ linesOf l, x.length ≤ l.length := by
 have key : ∀ (f : Nat) (l : List UInt8), ∀ x ∈ lns f l, x.length ≤ l.length := by
  intro f
  induction f with
  | zero => intro l x hx; cases hx
  | succ f ih =>
   intro l x hx
   unfold lns at hx
   split at hx
   · cases hx
   · rename_i hne
     simp only [List.mem_cons] at hx
     rcases hx with rfl | hx
     · exact (List.takeWhile_sublist _).length_le
     · have := ih _ x hx
       have := tail_lt hne
       omega
 exact key _ l
theorem rdf_small {l : List UInt8} {fs : List FD} (h : rdf l = .ok fs) : fs.length ≤ l.length ∧ ∀ f ∈ fs, f.n.size ≤ l.length ∧ f.v.size ≤ l.length := by
 unfold rdf at h
 split at h
 · cases h
 · split at h
   · injection h with h
     subst h
     refine ⟨by rw [List.length_map]; exact lines_len l, fun f hf => ?_⟩
     obtain ⟨x, hx, rfl⟩ := List.mem_map.1 hf
     have h1 := lines_small l x hx
     have h2 := tcr_len x
     have h3 := c_len 58 (tcr x)
     have h4 := trm_len (c2 58 (tcr x))
     unfold fln
     rw [str_len, str_len]
     omega
   · cases h
structure GW (w : World) (ad : Nat → Addr) : Prop where
 ge : GE w ad
 gn : GN w
 mt : w.rangeAt 17 0 mtC
 kd : w.rangeAt 16 0 kdC
 gp : GP w
 gm : GM w
theorem GW.up {w w' : World} {ad : Nat → Addr} (h : GW w ad) (k : Up w w') : GW w' ad := ⟨h.ge.up k, h.gn.up k, range_up h.mt k, range_up h.kd k, h.gp.up k, h.gm.up k⟩
structure Rq where
 m : List UInt8
 t : List UInt8
 mi : Int
 fs : List FD
def rqg (st fl : List UInt8) : Er (Rq × Int × Nat) := match rql st with
 | .error e => .error e
 | .ok (m, t, mi) => match rdf fl with
  | .error e => .error e
  | .ok fs => match ckh fs mi with
   | some e => .error e
   | none => match frm fs mi 0 with
    | .error e => .error e
    | .ok (way, len) => .ok (⟨m, t, mi, fs⟩, way, len)
def rqP (l : List UInt8) : Er ((Rq × List UInt8) × Nat) := msg 9 rqg (fun x _ b => (x, b)) l
def rqV (x : Rq) (a : Option Addr) (c : Nat) (v : Value) : Value := .agg #[vs x.m, vs x.t, .int .i64 x.mi, .slice a x.fs.length c, v, .bool (cls (x.mi == 0) x.fs)]
theorem rqV_eq {m t : List UInt8} {mi : Int} {fs : List FD} {a : Option Addr} {c nf : Nat} {v : Value} {cl : Bool} (h1 : fs.length = nf) (h2 : cls (mi == 0) fs = cl) : rqV ⟨m, t, mi, fs⟩ a c v = .agg #[vs m, vs t, .int .i64 mi, .slice a nf c, v, .bool cl] := by
 unfold rqV
 dsimp only
 rw [h1, h2]
def RqR (ad : Nat → Addr) (w w' : World) (e : Ending) : Er ((Rq × List UInt8) × Nat) → Prop
 | .error k => e = .returned (.tuple #[.agg z6.toArray, .int .i64 0, erV ad k])
 | .ok ((x, b), n) => ∃ a c v, e = .returned (.tuple #[rqV x a c v, .int .i64 (n : Int), .nilIface]) ∧ Hd (FdO w' w.heap.size a x.fs c ∧ Ow w' w.heap.size v b)
theorem RqR_ev {ad : Nat → Addr} {w w' : World} {k : Nat} (h : k < 12) : RqR ad w w' (.returned (.tuple #[.agg z6.toArray, .int .i64 0, ev (ad k)])) (.error k) := by
 show Ending.returned _ = Ending.returned _
 unfold erV
 rw [if_pos h]
theorem rql_er {l : List UInt8} {k : Nat} (h : rql l = .error k) : k < 12 := by
 unfold rql at h
 split at h
 · injection h with h; omega
 · split at h
   · injection h with h; omega
   · split at h
     · rename_i hm
       injection h with h
       have := mno_er hm
       omega
     · cases h
theorem rdf_er {l : List UInt8} {k : Nat} (h : rdf l = .error k) : k < 12 := by
 unfold rdf at h
 split at h
 · injection h with h; omega
 · split at h
   · cases h
   · injection h with h; omega
theorem ckh_er {fs : List FD} {mi : Int} {k : Nat} (h : ckh fs mi = some k) : k = 6 := by
 unfold ckh at h
 split at h
 · exact (Option.some.inj h).symm
 · split at h
   · exact (Option.some.inj h).symm
   · cases h
theorem frm_er {fs : List FD} {mi u : Int} {k : Nat} (h : frm fs mi u = .error k) : k = 5 ∨ k = 7 := by
 unfold frm frl at h
 split at h
 · injection h with h; exact .inl h.symm
 · split at h
   · injection h with h; exact .inl h.symm
   · split at h
     · cases h
     · split at h
       · cases h
       · split at h
         · cases h
         · split at h
           · injection h with h; exact .inr h.symm
           · injection h with h; exact .inl h.symm
theorem frm_len {fs : List FD} {mi u way : Int} {n : Nat} (h : frm fs mi u = .ok (way, n)) : n ≤ 1048576 := by
 unfold frm frl at h
 split at h
 · cases h
 · split at h
   · cases h
   · split at h
     · injection h with h; injection h with e1 e2; omega
     · split at h
       · injection h with h; injection h with e1 e2; omega
       · split at h
         · injection h with h; injection h with e1 e2
           have := prs_ge (lst fs).data.toList
           omega
         · split at h <;> cases h
set_option maxRecDepth 100000 in
set_option maxHeartbeats 4000000 in
theorem readRequest_walk (ad : Nat → Addr) {a : Option Addr} {n c : Nat} {ds : List UInt8} (hn40 : n ≤ 1099511627776) (w : World) (hS : Sb w (.slice a n c) ds) (hW : GW w ad) : Calls Tryz.prog 28 #[.slice a n c] w fun e w' => RqR ad w w' e (rqP ds) ∧ Up w w' := by
 have HW := Ho hW
 clear hW
 obtain ⟨hn, hnc, hcm⟩ := hS.len
 unfold maxLen at hcm
 have HN := Ho hn
 have HSb := Ho hS
 clear hn hS
 have HA0 := Ho (at_new w 36 z6)
 have HU0 := Ho ((Up.refl w).alloc (.cells z6.toArray 36))
 obtain ⟨rv, hrv⟩ := ny (rqP ds)
 have HR := Ho hrv
 rw [hrv]
 clear hrv
 unfold rqP msg at HR
 go_enter Tryz.func28, Tryz.ntmps28
 go_wp2_with (with_reducible refine sL 73 ?_)
 show wpList _ _ _ _ _ _
 obtain ⟨w1, hw1⟩ := ny (w.alloc (.cells z6.toArray 36))
 rw [hw1] at HA0 HU0
 change wpList _ _ _ _ _ (w.alloc (.cells z6.toArray 36))
 rw [hw1]
 clear hw1
 have hgl : w1.cell? ⟨0, 0, none⟩ = some (ev (ad 9)) := (HW.o.ge.up HU0.o).gl 9 (by decide)
 go_wp2_with fail
 refine (cutHead_walk ad 9 hn40 w1 (HSb.o.up HU0.o) (HW.o.ge.up HU0.o)).mono ?_
 rintro e w2 ⟨rfl, h9⟩
 have HU2 := Ho (HU0.o.trans h9)
 have HA2 := Ho (HA0.o.up h9)
 clear h9 hgl
 cases hc : cHd 9 ds with
 | error k =>
  rw [hc] at HR
  have HE := Ho (show rv = .error k from HR.o.symm)
  have hne := er_neq ad k
  have hge := er_grd ad k
  unfold hR z3
  dsimp only
  go_wp2_with (with_reducible show wpList _ _ _ (⟨_, .store 36 (.tmp 2) _, _, _, _, _⟩ :: _) _ _; refine Shut.out ?_)
  show wpList _ _ _ _ _ _
  refine wpList_store_at rfl 36 _ _ rfl (w.heap.size) (HA2.o.up ((Up.refl w2).alloc _)) z6 rfl rfl rfl (by kernel_rfl) (by kernel_rfl) ?_
  intro w8 hA8 hg8
  have HA8 := Ho hA8
  have HU8 := Ho ((HU2.o.alloc _).bz hg8)
  clear hA8 hg8
  simp only [Act.put]
  repeat go_step
  refine bodyPost_ret (result_cell_tmp2 Tryz.results28 _ _ (w.heap.size) z6 _ _ rfl rfl rfl HA8.o.range Tryz.underlying36 rfl (by kernel_rfl)) rfl ?_
  rw [HE.o]
  exact ⟨rfl, HU8.o⟩
 | ok q =>
  obtain ⟨st, fl, k⟩ := q
  rw [hc] at HR
  have hck := cHd_ok hc
  have hkn : k ≤ n := by rw [HN.o]; exact hck.2.1
  have hst : st.length ≤ 8000 := hck.2.2.1
  have hfll : fl.length ≤ 16384 := hck.2.2.2.1
  unfold hR
  dsimp only at HR ⊢
  clear hck hc
  go_wp2_with fail
  obtain ⟨w3, hw3⟩ := ny (w2.alloc (.cells #[vs st, vs fl, .int .i64 (k : Int)] 118))
  have HH3 := Ho (show At w3 w2.heap.size 118 [vs st, vs fl, .int .i64 (k : Int)] by rw [← hw3]; exact at_new w2 118 [vs st, vs fl, .int .i64 (k : Int)])
  have hu3 : Up w2 w3 := by rw [← hw3]; exact (Up.refl w2).alloc _
  have HU3 := Ho (HU2.o.trans hu3)
  have HA3 := Ho (HA2.o.up hu3)
  change Calls _ _ _ (w2.alloc (.cells #[vs st, vs fl, .int .i64 (k : Int)] 118)) _
  rw [hw3]
  clear hw3 hu3
  refine (readRequestLine_walk ad ⟨st.toArray⟩ (by rw [str_len]; omega) w3 (HW.o.up HU3.o).ge (HW.o.up HU3.o).gn (HW.o.up HU3.o).mt).mono ?_
  rintro e w4 ⟨rfl, h9⟩
  have HU4 := Ho (HU3.o.trans h9)
  have HA4 := Ho (HA3.o.up h9)
  have HH4 := Ho (HH3.o.up h9)
  clear h9 HH3
  unfold rqg at HR
  cases hl : rql st with
  | error e1 =>
   rw [hl] at HR
   have HE := Ho (show rv = .error e1 from HR.o.symm)
   have HK := Ho (rql_er hl)
   unfold rlR z6
   dsimp only
   go_wp2_with (with_reducible show wpList _ _ _ (⟨_, .store 36 (.tmp 2) _, _, _, _, _⟩ :: _) _ _; refine Shut.out ?_)
   show wpList _ _ _ _ _ _
   refine wpList_store_at rfl 36 _ _ rfl (w.heap.size) (HA4.o.up ((Up.refl w4).alloc _)) z6 rfl rfl rfl (by kernel_rfl) (by kernel_rfl) ?_
   intro w8 hA8 hg8
   have HA8 := Ho hA8
   have HU8 := Ho ((HU4.o.alloc _).bz hg8)
   clear hA8 hg8
   simp only [Act.put]
   repeat go_step
   refine bodyPost_ret (result_cell_tmp2 Tryz.results28 _ _ (w.heap.size) z6 _ _ rfl rfl rfl HA8.o.range Tryz.underlying36 rfl (by kernel_rfl)) rfl ?_
   rw [HE.o]
   exact ⟨RqR_ev HK.o, HU8.o⟩
  | ok q1 =>
   obtain ⟨m, t, mi⟩ := q1
   rw [hl] at HR
   unfold rlR
   dsimp only at HR ⊢
   clear hl
   have HUw4 := Ho HU4.o
   have HUw4s := Ho (show w.heap.size < w4.heap.size from lt_of_at HA4.o)
   have h1 : (w4.alloc (.cells #[vs m, vs t, .int .i64 mi, .slice none 0 0, .slice none 0 0, .bool false] 36)).cell? ⟨w2.heap.size, 1, none⟩ = some (vs fl) := (HH4.o.up ((Up.refl w4).alloc _)).cell (i := 1) rfl
   go_wp2_with fail
   obtain ⟨w5, hw5⟩ := ny (w4.alloc (.cells #[vs m, vs t, .int .i64 mi, .slice none 0 0, .slice none 0 0, .bool false] 36))
   have HR5 := Ho (show At w5 w4.heap.size 36 [vs m, vs t, .int .i64 mi, .slice none 0 0, .slice none 0 0, .bool false] by rw [← hw5]; exact at_new w4 36 [vs m, vs t, .int .i64 mi, .slice none 0 0, .slice none 0 0, .bool false])
   have hu5 : Up w4 w5 := by rw [← hw5]; exact (Up.refl w4).alloc _
   have HU5 := Ho (HU4.o.trans hu5)
   have HA5 := Ho (HA4.o.up hu5)
   have HH5 := Ho (HH4.o.up hu5)
   change Calls _ _ _ (w4.alloc (.cells #[vs m, vs t, .int .i64 mi, .slice none 0 0, .slice none 0 0, .bool false] 36)) _
   rw [hw5]
   clear hw5 hu5 h1
   refine (readFields_walk ad ⟨fl.toArray⟩ (by rw [str_len]; exact hfll) w5 (HW.o.up HU5.o).ge).mono ?_
   rintro e w6 ⟨hRd, h9⟩
   have HU6 := Ho (HU5.o.trans h9)
   have HA6 := Ho (HA5.o.up h9)
   have HH6 := Ho (HH5.o.up h9)
   have HR6 := Ho (HR5.o.up h9)
   have HU56 := Ho h9
   clear h9
   have q3 : w6.cell? ⟨w4.heap.size, 3, none⟩ = some (.slice none 0 0) := HR6.o.cell (i := 3) rfl
   have p3 := HR6.o.thaw 3
   have hrne : w4.heap.size ≠ w.heap.size := by have := HUw4s.o; omega
   cases hd : rdf fl with
   | error e2 =>
    rw [hd] at HR
    have HE := Ho (show rv = .error e2 from HR.o.symm)
    have HK := Ho (rdf_er hd)
    rw [show (⟨fl.toArray⟩ : ByteArray).data.toList = fl from rfl, hd] at hRd
    obtain rfl : e = _ := hRd
    dsimp only
    have HG3 := Ho (grown_at w6 w4.heap.size 3 (.slice none 0 0))
    go_wp2_with (with_reducible show wpList _ _ _ (⟨_, .store 36 (.tmp 2) _, _, _, _, _⟩ :: _) _ _; refine Shut.out ?_)
    show wpList _ _ _ _ _ _
    refine wpList_store_at rfl 36 _ _ rfl (w.heap.size) (HA6.o.by HG3.o (fun e => hrne (Option.some.inj e))) z6 rfl rfl rfl (by kernel_rfl) (by kernel_rfl) ?_
    intro w8 hA8 hg8
    have HA8 := Ho hA8
    have HU8 := Ho ((HU6.o.by HG3.o (fun g hg => by have := Option.some.inj hg; have := HUw4.o.size; omega)).bz hg8)
    clear hA8 hg8
    simp only [Act.put]
    repeat go_step
    refine bodyPost_ret (result_cell_tmp2 Tryz.results28 _ _ (w.heap.size) z6 _ _ rfl rfl rfl HA8.o.range Tryz.underlying36 rfl (by kernel_rfl)) rfl ?_
    rw [HE.o]
    exact ⟨RqR_ev HK.o, HU8.o⟩
   | ok fs =>
    rw [hd] at HR
    rw [show (⟨fl.toArray⟩ : ByteArray).data.toList = fl from rfl, hd] at hRd
    obtain ⟨af, cf, rfl, hFO⟩ := hRd
    have hsm := rdf_small hd
    have hfl2 : fs.length ≤ 1048576 := by omega
    have HSm := Ho (show ∀ f ∈ fs, f.v.size ≤ 1048576 from fun f hf => by have := (hsm.2 f hf).2; omega)
    clear hsm hd
    dsimp only at HR ⊢
    have HFO6 := Ho (ow_base hFO.o HU5.o.size)
    clear hFO
    obtain ⟨nf, hnf⟩ := ny fs.length
    have HNf := Ho hnf
    rw [hnf] at HFO6 ⊢
    clear hnf
    have HG3 := Ho (grown_at w6 w4.heap.size 3 (.slice af nf cf))
    have HR7 := Ho (HR6.o.set 3 (.slice af nf cf))
    dsimp only [List.set_cons_zero, List.set_cons_succ] at HR7
    have HA7 := Ho (HA6.o.by HG3.o (fun e => hrne (Option.some.inj e)))
    have hhne := HH6.o.ne HR6.o (by decide)
    have HH7 := Ho (HH6.o.by HG3.o (fun e => hhne (Option.some.inj e).symm))
    have HU7 := Ho (HU6.o.by HG3.o (fun g hg => by have := Option.some.inj hg; have := HUw4.o.size; omega))
    have HFO7 := Ho (HFO6.o.kept HG3.o (.inr (own_ne HFO6.o HR6.o (by decide))))
    have r2 : (w6.setCell ⟨w4.heap.size, 3, none⟩ (.slice af nf cf)).cell? ⟨w4.heap.size, 2, none⟩ = some (.int .i64 mi) := HR7.o.cell (i := 2) rfl
    have r3 : (w6.setCell ⟨w4.heap.size, 3, none⟩ (.slice af nf cf)).cell? ⟨w4.heap.size, 3, none⟩ = some (.slice af nf cf) := HR7.o.cell (i := 3) rfl
    clear HG3 hhne HR6 HA6 HH6 HFO6
    go_wp2_with fail
    change Calls _ _ _ (w6.setCell ⟨w4.heap.size, 3, none⟩ (.slice af nf cf)) _
    obtain ⟨w7, hw7⟩ := ny (w6.setCell ⟨w4.heap.size, 3, none⟩ (.slice af nf cf))
    rw [hw7] at HR7 HA7 HH7 HU7 HFO7 ⊢
    clear hw7 r2 r3 q3 p3
    have HFd := Ho (show FdL w7 af fs cf by have h := HFO7.o; rw [← HNf.o] at h; exact FdO.fdl h)
    have HCh := Ho (checkHost_walk ad af fs cf mi w7 HFd.o hfl2 HSm.o (HW.o.up HU7.o).ge (HW.o.up HU7.o).kd)
    rw [HNf.o] at HCh
    refine HCh.o.mono ?_
    rintro e w8' ⟨rfl, h9⟩
    have HU8' := Ho (HU7.o.trans h9)
    have HA8' := Ho (HA7.o.up h9)
    have HH8' := Ho (HH7.o.up h9)
    have HR8' := Ho (HR7.o.up h9)
    have HFO8' := Ho (ow_up HFO7.o h9)
    have HFd8' := Ho (HFd.o.up h9)
    clear h9 HCh
    cases hk : ckh fs mi with
    | some e3 =>
     rw [hk] at HR
     have HE := Ho (show rv = .error e3 from HR.o.symm)
     have HK := Ho (show e3 < 12 by have := ckh_er hk; omega)
     unfold eoV
     dsimp only
     go_wp2_with (with_reducible show wpList _ _ _ (⟨_, .store 36 (.tmp 2) _, _, _, _, _⟩ :: _) _ _; refine Shut.out ?_)
     show wpList _ _ _ _ _ _
     refine wpList_store_at rfl 36 _ _ rfl (w.heap.size) (HA8'.o) z6 rfl rfl rfl (by kernel_rfl) (by kernel_rfl) ?_
     intro w8 hA8 hg8
     have HA8 := Ho hA8
     have HU8 := Ho ((HU8'.o).bz hg8)
     clear hA8 hg8
     simp only [Act.put]
     repeat go_step
     refine bodyPost_ret (result_cell_tmp2 Tryz.results28 _ _ (w.heap.size) z6 _ _ rfl rfl rfl HA8.o.range Tryz.underlying36 rfl (by kernel_rfl)) rfl ?_
     rw [HE.o]
     exact ⟨RqR_ev HK.o, HU8.o⟩
    | none =>
     rw [hk] at HR
     unfold eoV
     dsimp only at HR ⊢
     clear hk
     have r2 : w8'.cell? ⟨w4.heap.size, 2, none⟩ = some (.int .i64 mi) := HR8'.o.cell (i := 2) rfl
     have r3 : w8'.cell? ⟨w4.heap.size, 3, none⟩ = some (.slice af nf cf) := HR8'.o.cell (i := 3) rfl
     have HFm := Ho (framingOf_walk ad af fs cf mi 0 w8' HFd8'.o hfl2 HSm.o (HW.o.up HU8'.o).ge (HW.o.up HU8'.o).kd (HW.o.up HU8'.o).gp)
     rw [HNf.o] at HFm
     go_wp2_with fail
     refine HFm.o.mono ?_
     rintro e w9 ⟨rfl, h9⟩
     have HU9 := Ho (HU8'.o.trans h9)
     have HA9 := Ho (HA8'.o.up h9)
     have HH9 := Ho (HH8'.o.up h9)
     have HR9 := Ho (HR8'.o.up h9)
     have HFO9 := Ho (ow_up HFO8'.o h9)
     have HFd9 := Ho (HFd8'.o.up h9)
     clear h9 HFm r2 r3
     cases hf0 : frm fs mi 0 with
     | error e4 =>
      rw [hf0] at HR
      have HE := Ho (show rv = .error e4 from HR.o.symm)
      have HK := Ho (show e4 < 12 by have := frm_er hf0; omega)
      unfold frR z2
      dsimp only
      go_wp2_with (with_reducible show wpList _ _ _ (⟨_, .store 36 (.tmp 2) _, _, _, _, _⟩ :: _) _ _; refine Shut.out ?_)
      show wpList _ _ _ _ _ _
      refine wpList_store_at rfl 36 _ _ rfl (w.heap.size) (HA9.o.up ((Up.refl w9).alloc _)) z6 rfl rfl rfl (by kernel_rfl) (by kernel_rfl) ?_
      intro w8 hA8 hg8
      have HA8 := Ho hA8
      have HU8 := Ho ((HU9.o.alloc _).bz hg8)
      clear hA8 hg8
      simp only [Act.put]
      repeat go_step
      refine bodyPost_ret (result_cell_tmp2 Tryz.results28 _ _ (w.heap.size) z6 _ _ rfl rfl rfl HA8.o.range Tryz.underlying36 rfl (by kernel_rfl)) rfl ?_
      rw [HE.o]
      exact ⟨RqR_ev HK.o, HU8.o⟩
     | ok q4 =>
      obtain ⟨way, len⟩ := q4
      rw [hf0] at HR
      have hlen := frm_len hf0
      unfold frR
      dsimp only at HR ⊢
      clear hf0
      go_wp2
      obtain ⟨wA, hwA⟩ := ny (w9.alloc (.cells #[.int .i64 way, .int .i64 (len : Int)] 127))
      have HFA := Ho (show At wA w9.heap.size 127 [.int .i64 way, .int .i64 (len : Int)] by rw [← hwA]; exact at_new w9 127 [.int .i64 way, .int .i64 (len : Int)])
      have huA : Up w9 wA := by rw [← hwA]; exact (Up.refl w9).alloc _
      have HUA := Ho (HU9.o.trans huA)
      have HAA := Ho (HA9.o.up huA)
      have HHA := Ho (HH9.o.up huA)
      have HRA := Ho (HR9.o.up huA)
      have HFO := Ho (ow_up HFO9.o huA)
      have HFA2 := Ho (HFd9.o.up huA)
      change Code.wp _ _ _ _ (w9.alloc (.cells #[.int .i64 way, .int .i64 (len : Int)] 127))
      rw [hwA]
      clear hwA huA HU9 HA9 HH9 HR9 HFO9 HFd9
      have hSk := HSb.o.sub k n hkn (by rw [← HN.o]; exact Nat.le_refl _)
      rw [show (ds.take n).drop k = ds.drop k by rw [HN.o, List.take_length]] at hSk
      have HCt := Ho (fun (w2 : World) (hu : Up wA w2) => cut_walk ad way len (by omega) (by omega) w2 (hSk.up (HUA.o.trans hu)) (HW.o.up (HUA.o.trans hu)).ge)
      clear hSk
      have HRes := Ho (show ∀ r : Er ((Rq × List UInt8) × Nat), (match fcu way len (ds.drop k) with | .error e => .error e | .ok (b, n) => .ok ((⟨m, t, mi, fs⟩, b), k + n)) = r → rv = r from fun r hr => by
       rw [← HR.o, ← hr]
       cases fcu way len (ds.drop k) <;> rfl)
      clear HR
      refine wp_region_held_drew (S := fun w2 => Up wA w2) (by kernel_rfl) (Up.refl wA).drew (fun hS => ?_)
      refine tK 0 (some 64) (.load 127 (.tmp 8)) 127 (.agg #[.int .i64 way, .int .i64 (len : Int)]) hS ?_ ?_
      · intro _ _ w5 hSw
        have hf0 : w5.cell? ⟨w9.heap.size, 0, none⟩ = some (.int .i64 way) := hSw.cell (HFA.o.cell (i := 0) rfl)
        have hf1 : w5.cell? ⟨w9.heap.size, 1, none⟩ = some (.int .i64 (len : Int)) := hSw.cell (HFA.o.cell (i := 1) rfl)
        clear hSw hS
        go_simp
      simp only [Act.put, pB, pC, pD]
      refine tN 1 (some 65) (.move (.tmp 0)) 23 (.slice a n c) hS ?_
      simp only [pA, pB, pC, pD]
      refine tN 2 (some 66) (.fieldAddr 118 (.tmp 5) 2) 0 (.pointer (some ⟨w2.heap.size, 2, none⟩)) hS ?_
      simp only [pA, pB, pC, pD]
      refine tK 3 (some 67) (.load 3 (.tmp 66)) 3 (.int .i64 (k : Int)) hS ?_ ?_
      · intro _ _ w5 hSw
        have hh2 : w5.cell? ⟨w2.heap.size, 2, none⟩ = some (.int .i64 (k : Int)) := hSw.cell (HHA.o.cell (i := 2) rfl)
        clear hSw hS
        go_simp
      simp only [pA, pB, pC, pD]
      refine tK 4 (some 68) (.slice 23 (.tmp 65) (some (.tmp 67)) none none) 23 (.slice (sv a c k) (n - k) (c - k)) hS ?_ ?_
      · intro _ _ w5 hSw
        clear hSw hS
        exact exec_sublo (by omega) rfl rfl rfl
      simp only [pA, pB, pC, pD]
      refine rD 5 (some 69) (.call ⟨.value (.func 72), #[.tmp 64, .tmp 68], #[127, 23]⟩) 115 fun _ _ K hK => ?_
      rw [if_pos (by kernel_rfl)]
      go_simp
      refine (HCt.o _ hS).mono ?_
      rintro e wB ⟨hUn, u5⟩
      have HSB := Ho (hS.trans u5)
      have HSs := Ho hS
      clear u5 hS
      cases hf : fcu way len (ds.drop k) with
      | error e9 =>
       rw [hf] at hUn
       obtain rfl : e = _ := hUn
       dsimp only
       refine hK.out _ _ HSB.o (fun hS => ?_)
       clear hK K
       refine tN 6 (some 63) (.move (.tmp 69)) 115 (.tuple #[.slice none 0 0, .int .i64 0, erV ad e9]) hS ?_
       simp only [Act.put, pB, pC, pD]
       refine tN 7 (some 70) (.extract (.tmp 63) 0) 23 (.slice none 0 0) hS ?_
       simp only [pA, pB, pC, pD]
       refine tN 8 (some 71) (.extract (.tmp 63) 1) 3 (.int .i64 0) hS ?_
       simp only [pA, pB, pC, pD]
       refine tN 9 (some 72) (.extract (.tmp 63) 2) 73 (erV ad e9) hS ?_
       simp only [pA, pB, pC, pD]
       refine tN 10 (some 9) (.assign (.tmp 70)) 23 (.slice none 0 0) hS ?_
       simp only [pA, pB, pC, pD]
       refine tN 11 (some 10) (.assign (.tmp 71)) 3 (.int .i64 0) hS ?_
       simp only [pA, pB, pC, pD]
       refine tN 12 (some 6) (.assign (.tmp 72)) 73 (erV ad e9) hS ?_
       simp only [pA, pB, pC, pD]
       clear hS
       refine wpAnyH_done (by kernel_rfl) ?_ _
       have hne := er_neq ad e9
       have hge := er_grd ad e9
       have HE := Ho (HRes.o (.error e9) (by rw [hf]))
       go_wp2_with (with_reducible show wpList _ _ _ (⟨_, .store 36 (.tmp 2) _, _, _, _, _⟩ :: _) _ _; refine Shut.out ?_)
       show wpList _ _ _ _ _ _
       refine wpList_store_at rfl 36 _ _ rfl (w.heap.size) (HAA.o.up HSB.o) z6 rfl rfl rfl (by kernel_rfl) (by kernel_rfl) ?_
       intro w8 hA8 hg8
       have HA8 := Ho hA8
       have HU8 := Ho ((HUA.o.trans HSB.o).bz hg8)
       clear hA8 hg8
       simp only [Act.put]
       repeat go_step
       refine bodyPost_ret (result_cell_tmp2 Tryz.results28 _ _ (w.heap.size) z6 _ _ rfl rfl rfl HA8.o.range Tryz.underlying36 rfl (by kernel_rfl)) rfl ?_
       rw [HE.o]
       exact ⟨rfl, HU8.o⟩
      | ok q9 =>
       obtain ⟨bo, nb⟩ := q9
       rw [hf] at hUn
       obtain ⟨vB, rfl, hoB⟩ := hUn
       have HOB := Ho (ow_base hoB.o (Nat.le_trans HUA.o.size HSs.o.size))
       clear hoB
       dsimp only
       refine hK.out _ _ HSB.o (fun hS => ?_)
       clear hK K
       refine tN 6 (some 63) (.move (.tmp 69)) 115 (.tuple #[vB, .int .i64 (nb : Int), .nilIface]) hS ?_
       simp only [Act.put, pB, pC, pD]
       refine tN 7 (some 70) (.extract (.tmp 63) 0) 23 vB hS ?_
       simp only [pA, pB, pC, pD]
       refine tN 8 (some 71) (.extract (.tmp 63) 1) 3 (.int .i64 (nb : Int)) hS ?_
       simp only [pA, pB, pC, pD]
       refine tN 9 (some 72) (.extract (.tmp 63) 2) 73 .nilIface hS ?_
       simp only [pA, pB, pC, pD]
       refine tN 10 (some 9) (.assign (.tmp 70)) 23 vB hS ?_
       simp only [pA, pB, pC, pD]
       refine tN 11 (some 10) (.assign (.tmp 71)) 3 (.int .i64 (nb : Int)) hS ?_
       simp only [pA, pB, pC, pD]
       refine tN 12 (some 6) (.assign (.tmp 72)) 73 .nilIface hS ?_
       simp only [pA, pB, pC, pD]
       clear hS
       refine wpAnyH_done (by kernel_rfl) ?_ _
       have hfl := fcu_len hf
       rw [List.length_drop, ← HN.o] at hfl
       have hnb : nb ≤ n - k := hfl.1
       clear hfl
       have HE := Ho (HRes.o (.ok ((⟨m, t, mi, fs⟩, bo), k + nb)) (by rw [hf]))
       clear hf
       have HRB := Ho (HRA.o.up HSB.o)
       have r2 : wB.cell? ⟨w4.heap.size, 2, none⟩ = some (.int .i64 mi) := HRB.o.cell (i := 2) rfl
       have r3 : wB.cell? ⟨w4.heap.size, 3, none⟩ = some (.slice af nf cf) := HRB.o.cell (i := 3) rfl
       have HUB := Ho (HUA.o.trans HSB.o)
       have HFB := Ho (show FdL wB af fs cf by have h := HFA2.o.up HSB.o; exact h)
       have HCs := Ho (closes_walk af fs cf mi wB HFB.o hfl2 HSm.o (HW.o.up HUB.o).kd (HW.o.up HUB.o).gm)
       rw [HNf.o] at HCs
       obtain ⟨clv, hclv⟩ := ny (cls (mi == 0) fs)
       have HCv := Ho hclv
       rw [hclv] at HCs
       clear hclv
       go_wp2_with fail
       refine HCs.o.mono ?_
       rintro e wC ⟨rfl, uC⟩
       have HUC := Ho (HUB.o.trans uC)
       have HRC := Ho (HRB.o.up uC)
       have HAC := Ho ((HAA.o.up HSB.o).up uC)
       have HHC := Ho ((HHA.o.up HSB.o).up uC)
       have HFC := Ho (ow_up (ow_up HFO.o HSB.o) uC)
       have HOC := Ho (ow_up HOB.o uC)
       clear uC r2 r3
       dsimp only
       have k4 : wC.cell? ⟨w4.heap.size, 4, none⟩ = some (.slice none 0 0) := HRC.o.cell (i := 4) rfl
       have f4 := HRC.o.thaw 4
       have k5 : wC.cell? ⟨w4.heap.size, 5, none⟩ = some (.bool false) := HRC.o.cell (i := 5) rfl
       have f5 := HRC.o.thaw 5
       obtain ⟨aB, nB, cB, rfl⟩ := Sb.shape (Ow.sb HOB.o)
       go_wp2
       have HG4 := Ho (grown_at wC w4.heap.size 4 (.slice aB nB cB))
       have HG5 := Ho (grown_at (wC.setCell ⟨w4.heap.size, 4, none⟩ (.slice aB nB cB)) w4.heap.size 5 (.bool clv))
       have HRE := Ho ((HRC.o.set 4 (.slice aB nB cB)).set 5 (.bool clv))
       have HUE := Ho ((HUC.o.by HG4.o (fun g hg => by have := Option.some.inj hg; have := HUw4.o.size; omega)).by HG5.o (fun g hg => by have := Option.some.inj hg; have := HUw4.o.size; omega))
       have hrne : w4.heap.size ≠ w.heap.size := by have := HUw4s.o; omega
       have HAE := Ho ((HAC.o.by HG4.o (fun e => hrne (Option.some.inj e))).by HG5.o (fun e => hrne (Option.some.inj e)))
       have hhne := HHC.o.ne HRC.o (by decide)
       have HHE := Ho ((HHC.o.by HG4.o (fun e => hhne (Option.some.inj e).symm)).by HG5.o (fun e => hhne (Option.some.inj e).symm))
       have HFE := Ho ((HFC.o.kept HG4.o (.inr (own_ne HFC.o HRC.o (by decide)))).kept HG5.o (.inr (own_ne HFC.o HRC.o (by decide))))
       have HOE := Ho ((HOC.o.kept HG4.o (.inr (own_ne HOC.o HRC.o (by decide)))).kept HG5.o (.inr (own_ne HOC.o HRC.o (by decide))))
       clear HG4 HG5 k4 f4 k5 f5 hrne hhne
       generalize (wC.setCell ⟨w4.heap.size, 4, none⟩ (.slice aB nB cB)).setCell ⟨w4.heap.size, 5, none⟩ (.bool clv) = wE at *
       dsimp only [List.set_cons_zero, List.set_cons_succ] at HRE
       have hone : ([vs m, vs t, .int .i64 mi, .slice af nf cf, Value.slice aB nB cB, .bool clv] : List Value).toArray.all (·.oneCell') = true := by kernel_rfl
       refine wp_region_held_drew (S := fun wS => (∃ cs, cs.length = 6 ∧ At wS w.heap.size 36 cs) ∧ At wS w4.heap.size 36 [vs m, vs t, .int .i64 mi, .slice af nf cf, (.slice aB nB cB), .bool clv] ∧ At wS w2.heap.size 118 [vs st, vs fl, .int .i64 (k : Int)] ∧ wS.ownsRow w.heap.size 87 2 (.slice af nf cf) nf (fdc fs) ∧ Ow wS w.heap.size (.slice aB nB cB) bo ∧ Up w wS) (by kernel_rfl) ⟨⟨z6, rfl, HAE.o.up (Up.refl _).drew⟩, HRE.o.up (Up.refl _).drew, HHE.o.up (Up.refl _).drew, ow_up HFE.o (Up.refl _).drew, ow_up HOE.o (Up.refl _).drew, HUE.o.drew⟩ (fun hS => ?_)
       refine tK 0 (some 85) (.load 36 (.tmp 7)) 36 (.agg [vs m, vs t, .int .i64 mi, .slice af nf cf, (.slice aB nB cB), .bool clv].toArray) hS ?_ ?_
       · intro _ _ w5 hSw
         have hld := hSw.2.1.range
         clear hS
         clear hSw
         exact exec_load6 rfl rfl hld
       simp only [pA, pB, pC, pD]
       refine tN 1 (some 86) (.fieldAddr 118 (.tmp 5) 2) 0 (.pointer (some ⟨w2.heap.size, 2, none⟩)) hS ?_
       simp only [pA, pB, pC, pD]
       refine tK 2 (some 87) (.load 3 (.tmp 86)) 3 (.int .i64 (k : Int)) hS ?_ ?_
       · intro _ _ w5 hSw
         have hh2 : w5.cell? ⟨w2.heap.size, 2, none⟩ = some (.int .i64 (k : Int)) := hSw.2.2.1.cell (i := 2) rfl
         clear hSw hS
         go_simp
       simp only [pA, pB, pC, pD]
       refine tN 3 (some 88) (.move (.tmp 10)) 3 (.int .i64 (nb : Int)) hS ?_
       simp only [pA, pB, pC, pD]
       refine tK 4 (some 89) (.binOp .add 3 (.tmp 87) (.tmp 88) 3) 3 (.int .i64 ((k + nb : Nat) : Int)) hS ?_ ?_
       · intro _ _ w5 hSw
         clear hSw hS
         go_simp
         exact wrapk _ (by omega) (by omega)
       simp only [pA, pB, pC, pD]
       refine rD 5 none (.store 36 (.tmp 2) (.tmp 85)) 0 fun _ _ K hK => oper_of_list ?_
       obtain ⟨⟨cs, hcl, hcs2⟩, hS1, hS2, hS3, hS4, hS5⟩ := hS
       refine wpList_store_at rfl 36 _ _ rfl (w.heap.size) hcs2 [vs m, vs t, .int .i64 mi, .slice af nf cf, (.slice aB nB cB), .bool clv] rfl rfl hcl.symm (by kernel_rfl) hone ?_
       intro w8 hA8 hg8
       have HA8 := Ho hA8
       have HU8 := Ho (hS5.bz hg8)
       have HF8 := Ho (hS3.kept hg8 (.inr (own_ne hS3 hcs2 (by decide))))
       have HO8 := Ho (hS4.kept hg8 (.inr (own_ne hS4 hcs2 (by decide))))
       have HR8 := Ho (hS1.by hg8 (by have := hS1.ne hcs2; intro e; have := Option.some.inj e; omega))
       have HH8 := Ho (hS2.by hg8 (by have := hS2.ne hcs2 (by decide); intro e; have := Option.some.inj e; omega))
       clear hA8 hg8 hcs2 hS2 hS1 hS3 hS4 hS5
       refine hK.out _ _ ⟨⟨_, rfl, HA8.o⟩, HR8.o, HH8.o, HF8.o, HO8.o, HU8.o⟩ (fun hS => ?_)
       clear hK K
       refine tN 6 (some 3) (.assign (.tmp 89)) 3 (.int .i64 ((k + nb : Nat) : Int)) hS ?_
       simp only [Act.put, pB, pC, pD]
       refine tN 7 (some 4) (.assign (.const .nilIface)) 73 .nilIface hS ?_
       simp only [pA, pB, pC, pD]
       clear hS
       refine wpAnyH_done (by kernel_rfl) ?_ _
       repeat go_step
       refine bodyPost_ret (result_cell_tmp2 Tryz.results28 _ _ (w.heap.size) [vs m, vs t, .int .i64 mi, .slice af nf cf, (.slice aB nB cB), .bool clv] _ _ rfl rfl rfl HA8.o.range Tryz.underlying36 rfl (by kernel_rfl)) rfl ?_
       rw [HE.o]
       exact ⟨⟨af, cf, .slice aB nB cB, congrArg (fun x => Ending.returned (.tuple #[x, .int .i64 ((k + nb : Nat) : Int), .nilIface])) (rqV_eq HNf.o HCv.o).symm, Ho ⟨by unfold FdO; rw [HNf.o]; exact HF8.o, HO8.o⟩⟩, HU8.o⟩
end Go.Proofs.YtkaoalcffgnfeaaGreatDoor
namespace Go.Proofs.YtkaoalcffgnfeaaGreatDoor
open Go.RowKit Go.Shelf TextNum
theorem rqg_er {st fl : List UInt8} {k : Nat} (h : rqg st fl = .error k) : k < 12 := by
 unfold rqg at h
 split at h
 · rename_i he
   injection h with h
   subst h
   exact rql_er he
 · split at h
   · rename_i he
     injection h with h
     subst h
     exact rdf_er he
   · split at h
     · rename_i he
       injection h with h
       subst h
       have := ckh_er he
       omega
     · split at h
       · rename_i he
         injection h with h
         subst h
         have := frm_er he
         omega
       · cases h
theorem msg_lt {X Y : Type} {pl : Nat} {g : List UInt8 → List UInt8 → Er (X × Int × Nat)} {mk : X → Int → List UInt8 → Y} {l : List UInt8} {k : Nat} (hp : pl < 12) (hg : ∀ st fl k, g st fl = .error k → k < 12) (h : msg pl g mk l = .error k) : k < 24 := by
 unfold msg at h
 split at h
 · rename_i he
   injection h with h
   subst h
   have := cHd_er he
   omega
 · split at h
   · rename_i he
     injection h with h
     subst h
     have := hg _ _ _ he
     omega
   · split at h
     · rename_i he
       injection h with h
       subst h
       have := fcu_er he
       omega
     · cases h
theorem rqP_lt {l : List UInt8} {k : Nat} (h : rqP l = .error k) : k < 24 := msg_lt (by decide) (fun _ _ _ => rqg_er) h
def PqR (w w' : World) (e : Ending) : Er ((Rq × List UInt8) × Nat) → Prop
 | .error k => e = .returned (.tuple #[.agg z6.toArray, .int .i64 0, .int .i64 (numK k)])
 | .ok ((x, b), n) => ∃ a c v, e = .returned (.tuple #[rqV x a c v, .int .i64 (n : Int), .int .i64 0]) ∧ Hd (FdO w' w.heap.size a x.fs c ∧ Ow w' w.heap.size v b)
set_option maxRecDepth 100000 in
set_option maxHeartbeats 4000000 in
theorem ParseRequest_walk (ad : Nat → Addr) {a : Option Addr} {n c : Nat} {ds : List UInt8} (hn40 : n ≤ 1099511627776) (w : World) (hS : Sb w (.slice a n c) ds) (hW : GW w ad) : Calls Tryz.prog 9 #[.slice a n c] w fun e w' => PqR w w' e (rqP ds) ∧ Up w w' := by
 have HW := Ho hW
 have HA0 := Ho (at_new w 36 z6)
 have HU0 := Ho ((Up.refl w).alloc (.cells z6.toArray 36))
 have HRq := Ho (readRequest_walk ad hn40 (w.alloc (.cells z6.toArray 36)) (hS.up HU0.o) (hW.up HU0.o))
 clear hW hS
 go_enter Tryz.func9, Tryz.ntmps9
 go_wp2_with fail
 change Calls _ _ _ (w.alloc (.cells z6.toArray 36)) _
 generalize w.alloc (.cells z6.toArray 36) = w1 at *
 refine HRq.o.mono ?_
 rintro e w2 ⟨hR, h9⟩
 have HU2 := Ho (HU0.o.trans h9)
 have HA2 := Ho (HA0.o.up h9)
 clear h9 HRq
 cases hr : rqP ds with
 | error k =>
  rw [hr] at hR
  obtain rfl : e = _ := hR
  have hk := rqP_lt hr
  have hne := er_neq ad k
  have hge := er_grd ad k
  have HE := Ho hr
  unfold z6
  dsimp only
  clear hr
  go_wp2_with fail
  have HU3 := Ho (HU2.o.alloc (.cells #[.string ⟨#[]⟩, .string ⟨#[]⟩, .int .i64 0, .slice none 0 0, .slice none 0 0, .bool false] 36))
  refine (numberOf_any ad k hk _ (HW.o.up HU3.o).ge).mono ?_
  rintro e w4 ⟨rfl, h9⟩
  have HU4 := Ho (HU3.o.trans h9)
  have HA4 := Ho ((HA2.o.up ((Up.refl w2).alloc _)).up h9)
  clear h9
  dsimp only
  go_wp2_with (with_reducible show wpList _ _ _ (⟨_, .store 36 (.tmp 2) _, _, _, _, _⟩ :: _) _ _; refine Shut.out ?_)
  show wpList _ _ _ _ _ _
  refine wpList_store_at rfl 36 _ _ rfl (w.heap.size) HA4.o z6 rfl rfl rfl (by kernel_rfl) (by kernel_rfl) ?_
  intro w8 hA8 hg8
  have HA8 := Ho hA8
  have HU8 := Ho (HU4.o.bz hg8)
  clear hA8 hg8
  simp only [Act.put]
  repeat go_step
  refine bodyPost_ret (result_cell_tmp2 Tryz.results9 _ _ (w.heap.size) z6 _ _ rfl rfl rfl HA8.o.range Tryz.underlying36 rfl (by kernel_rfl)) rfl ?_
  rw [HE.o]
  exact ⟨rfl, HU8.o⟩
 | ok q =>
  obtain ⟨⟨x, b⟩, m⟩ := q
  rw [hr] at hR
  obtain ⟨af, cf, v, rfl, hO⟩ := hR
  have HF2 := Ho (ow_base hO.o.1 HU0.o.size)
  have HB2 := Ho (ow_base hO.o.2 HU0.o.size)
  have HE := Ho hr
  clear hO hr
  obtain ⟨aB, nB, cB, rfl⟩ := Sb.shape (Ow.sb HB2.o)
  obtain ⟨rl, hrl⟩ : ∃ rl, rl = rqV x af cf (.slice aB nB cB) := ⟨_, rfl⟩
  have HRl := Ho hrl
  rw [← hrl]
  obtain ⟨xm, hxm⟩ : ∃ xm, xm = vs x.m := ⟨_, rfl⟩
  obtain ⟨xt, hxt⟩ : ∃ xt, xt = vs x.t := ⟨_, rfl⟩
  obtain ⟨cl, hcl⟩ : ∃ cl, cl = cls (x.mi == 0) x.fs := ⟨_, rfl⟩
  obtain ⟨nf, hnf⟩ : ∃ nf, nf = x.fs.length := ⟨_, rfl⟩
  have HRv := Ho (show rqV x af cf (.slice aB nB cB) = .agg #[vs x.m, vs x.t, .int .i64 x.mi, .slice af nf cf, .slice aB nB cB, .bool cl] by unfold rqV; rw [hcl, hnf])
  rw [hrl, HRv.o]
  clear hrl hxm hxt hcl hnf HRl
  have HA3 := Ho (at_new w2 36 [vs x.m, vs x.t, .int .i64 x.mi, .slice af nf cf, .slice aB nB cB, .bool cl])
  have HU3 := Ho ((Up.refl w2).alloc (.cells [vs x.m, vs x.t, .int .i64 x.mi, .slice af nf cf, .slice aB nB cB, .bool cl].toArray 36))
  go_wp2_with (with_reducible refine sL 36 ?_)
  show wpList _ _ _ _ _ _
  refine wpList_load_mid rfl _ _ rfl w2.heap.size 0 rfl [vs x.m, vs x.t, .int .i64 x.mi, .slice af nf cf, .slice aB nB cB, .bool cl] _ HA3.o.range Tryz.underlying36 rfl (by kernel_rfl) ?_
  simp only [Act.put, pB, pC, pD]
  go_wp2_with (with_reducible show wpList _ _ _ (⟨_, .store 36 (.tmp 2) _, _, _, _, _⟩ :: _) _ _; refine Shut.out ?_)
  show wpList _ _ _ _ _ _
  refine wpList_store_at rfl 36 _ _ rfl (w.heap.size) (HA2.o.up HU3.o) [vs x.m, vs x.t, .int .i64 x.mi, .slice af nf cf, .slice aB nB cB, .bool cl] rfl rfl rfl (by kernel_rfl) (by kernel_rfl) ?_
  intro w8 hA8 hg8
  have HA8 := Ho hA8
  have HU8 := Ho ((HU2.o.trans HU3.o).bz hg8)
  have HF8 := Ho ((ow_up HF2.o HU3.o).kept hg8 (.inr (own_ne HF2.o HA2.o (by decide))))
  have HO8 := Ho ((ow_up HB2.o HU3.o).kept hg8 (.inr (own_ne HB2.o HA2.o (by decide))))
  clear hA8 hg8
  simp only [Act.put]
  repeat go_step
  refine bodyPost_ret (result_cell_tmp2 Tryz.results9 _ _ (w.heap.size) [vs x.m, vs x.t, .int .i64 x.mi, .slice af nf cf, .slice aB nB cB, .bool cl] _ _ rfl rfl rfl HA8.o.range Tryz.underlying36 rfl (by kernel_rfl)) rfl ?_
  rw [HE.o]
  exact ⟨⟨af, cf, .slice aB nB cB, congrArg (fun y => Ending.returned (.tuple #[y, .int .i64 (m : Int), .int .i64 0])) HRv.o.symm, Ho ⟨HF8.o, HO8.o⟩⟩, HU8.o⟩
def sto (z : Int) : Bool := decide (100 ≤ z) && decide (z ≤ 599)
def bdl (z : Int) : Bool := (decide (100 ≤ z) && decide (z ≤ 199)) || (z == 204) || (z == 304)
set_option maxRecDepth 100000 in
theorem isStatus_walk (z : Int) (w : World) : Calls Tryz.prog 92 #[.int .i64 z] w fun e w' => e = .returned (.bool (sto z)) ∧ w' = w := by
 by_cases h1 : 100 ≤ z
 · have d1 : decide (100 ≤ z) = true := decide_eq_true h1
   go_enter Tryz.func92, Tryz.ntmps92
   go_wp2
   go_ret
   exact ⟨by unfold sto; rw [d1]; rfl, rfl⟩
 · have d1 : decide (100 ≤ z) = false := decide_eq_false h1
   go_enter Tryz.func92, Tryz.ntmps92
   go_wp2
   go_ret
   exact ⟨by unfold sto; rw [d1]; rfl, rfl⟩
set_option maxRecDepth 100000 in
theorem isBodiless_walk (z : Int) (w : World) : Calls Tryz.prog 47 #[.int .i64 z] w fun e w' => e = .returned (.bool (bdl z)) ∧ w' = w := by
 obtain ⟨rv, hrv⟩ := ny (bdl z)
 have HR := Ho hrv
 rw [hrv]
 clear hrv
 unfold bdl at HR
 by_cases h0 : 100 ≤ z ∧ z ≤ 199
 · have h1 := h0.1
   have h2 := h0.2
   have HE := Ho (show rv = true by rw [← HR.o, decide_eq_true h1, decide_eq_true h2]; rfl)
   clear h0
   go_enter Tryz.func47, Tryz.ntmps47
   go_wp2
   go_ret
   rw [HE.o]
   exact ⟨rfl, rfl⟩
 · have hd : (decide (100 ≤ z) && decide (z ≤ 199)) = false := by
    rw [Bool.and_eq_false_iff, decide_eq_false_iff_not, decide_eq_false_iff_not]; omega
   have HR2 := Ho (show rv = ((z == 204) || (z == 304)) by rw [← HR.o, hd]; rfl)
   clear HR hd
   cases h4 : (z == 204) with
   | true =>
    rw [h4] at HR2
    have HE := Ho (show rv = true from HR2.o)
    have hz : z = 204 := by simpa using h4
    subst hz
    clear h0
    go_enter Tryz.func47, Tryz.ntmps47
    go_wp2
    go_ret
    rw [HE.o]
    exact ⟨rfl, rfl⟩
   | false =>
    rw [h4] at HR2
    have HE := Ho (show rv = (z == 304) by rw [HR2.o]; rfl)
    by_cases h1 : 100 ≤ z
    · have h2 : ¬ z ≤ 199 := by omega
      clear h0
      go_enter Tryz.func47, Tryz.ntmps47
      go_wp2
      go_ret
      rw [HE.o]
      exact ⟨rfl, rfl⟩
    · clear h0
      go_enter Tryz.func47, Tryz.ntmps47
      go_wp2
      go_ret
      rw [HE.o]
      exact ⟨rfl, rfl⟩
end Go.Proofs.YtkaoalcffgnfeaaGreatDoor
namespace Go.Proofs.YtkaoalcffgnfeaaGreatDoor
open Go.RowKit Go.Shelf TextNum
def szf (f : FD) : Nat := f.n.size + f.v.size + 4
def szs (fs : List FD) : Nat := 2 + (fs.map szf).sum
theorem szs_snoc (fs : List FD) (f : FD) : szs (fs ++ [f]) = szs fs + szf f := by simp [szs]; omega
theorem szs_take (fs : List FD) (i : Nat) : szs (fs.take i) ≤ szs fs := by
 have h : szs fs = szs (fs.take i) + ((fs.drop i).map szf).sum := by
  conv => lhs; rw [← List.take_append_drop i fs]
  unfold szs
  rw [List.map_append, List.sum_append]
  omega
 omega
theorem szs_len : ∀ fs : List FD, 4 * fs.length + 2 ≤ szs fs
 | [] => by simp [szs]
 | f :: r => by
  have h := szs_len r
  have e : szs (f :: r) = szf f + szs r := by simp [szs]; omega
  rw [e, List.length_cons]
  unfold szf
  omega
set_option maxRecDepth 100000 in
set_option maxHeartbeats 1000000 in
theorem sizeOf_walk (a : Option Addr) (fs : List FD) (c : Nat) (w : World) (h : FdL w a fs c) (hl : szs fs ≤ 1099511627776) :
 Calls Tryz.prog 86 #[.slice a fs.length c] w fun e w' => e = .returned (.int .i64 ((szs fs : Nat) : Int)) ∧ Up w w' := by
 have HF := Ho h
 have hcap := h.cap
 have hsl := szs_len fs
 have HT := Ho (fun i => szs_take fs i)
 clear h
 obtain ⟨z, hz⟩ := ny (szs fs)
 have HZ := Ho hz
 rw [hz] at hl hsl HT ⊢
 clear hz
 go_enter Tryz.func86, Tryz.ntmps86
 go_wp2
 go_loopw [3, 8] (fun v3 v8 wr => ∃ i k : Nat, v8 = .int .i64 (i : Int) ∧ v3 = .int .i64 (k : Int) ∧ i ≤ fs.length ∧ k ≤ z ∧ Hd (Up w wr ∧ szs (fs.take i) = k)) (fun _ v8 _ => fs.length - (intOf v8).toNat)
 case atStart => exact ⟨0, 2, rfl, rfl, Nat.zero_le _, by omega, Ho ⟨Up.refl _, rfl⟩⟩
 case round =>
  obtain ⟨i, k, rfl, rfl, hi, hkz, hU⟩ := hrel
  have HU := Ho hU.o
  clear hU
  by_cases hil : i < fs.length
  · have hilz : (i : Int) < (fs.length : Int) := by omega
    obtain ⟨b, off, rfl, k1, k2⟩ := HF.o.cells i hil
    have HRg := Ho (range2 (HU.o.1.cell k1) (HU.o.1.cell k2))
    have hT := List.take_succ_eq_append_getElem hil
    obtain ⟨f, hf⟩ := ny (fs[i])
    rw [hf] at HRg hT
    have h5 := HT.o (i + 1)
    rw [hT, szs_snoc, HU.o.2] at h5
    have HS2 := Ho (show szs (fs.take (i + 1)) = k + szf f by rw [hT, szs_snoc, HU.o.2])
    unfold szf at h5
    have hn64 : ((f.n.size : Int)) ≤ 1099511627776 := by omega
    clear hf k1 k2 hT
    go_wp2_with (with_reducible refine sI 34 ?_)
    show wpList _ _ _ _ _ _
    refine wpList_val7 (.pointer (some ⟨b, off + i * 2, none⟩)) rfl (exec_idxFd i hil rfl rfl rfl) ?_
    simp only [Act.put, pB, pC, pD]
    refine wpList_load_mid rfl _ _ rfl b (off + i * 2) rfl [.string f.n, .string f.v] _ HRg.o Tryz.underlying87 rfl infoFd2 ?_
    simp only [Act.put, pB, pC, pD]
    have HUa := Ho (HU.o.1.alloc (.cells [.string f.n, .string f.v].toArray 87))
    go_wp2
    go_roundw
    all_goals first
     | exact ⟨i + 1, k + szf f, by go_num, by (unfold szf; go_num), by omega, by (unfold szf; omega), Ho ⟨HUa.o, HS2.o⟩⟩
     | (simp [intOf]; omega)
  · have hilz : ¬ (i : Int) < (fs.length : Int) := by omega
    have HTk := Ho (show fs.take i = fs from List.take_of_length_le (by omega))
    go_wp2
    go_ret
    have h2 := HU.o.2
    rw [HTk.o, HZ.o] at h2
    rw [h2]
    exact ⟨rfl, HU.o.1⟩
def mbf (f : FD) : Bool := tok f.n.data.toList && vlu f.v.data.toList
def ckf (fs : List FD) : Option Nat := if 64 < fs.length then some 1 else if fs.all mbf = false then some 5 else none
set_option maxRecDepth 100000 in
set_option maxHeartbeats 1000000 in
theorem checkFields_walk (ad : Nat → Addr) (a : Option Addr) (fs : List FD) (c : Nat) (w : World) (h : FdL w a fs c) (hl : szs fs ≤ 1099511627776) (hE : GE w ad) :
 Calls Tryz.prog 91 #[.slice a fs.length c] w fun e w' => e = .returned (eoV ad (ckf fs)) ∧ Up w w' := by
 have HF := Ho h
 have HG := Ho hE
 have hcap := h.cap
 have hsl := szs_len fs
 have HT := Ho (fun i => szs_take fs i)
 clear h hE
 obtain ⟨rv, hrv⟩ := ny (eoV ad (ckf fs))
 have HR := Ho hrv
 rw [hrv]
 clear hrv
 obtain ⟨z, hz⟩ := ny (szs fs)
 rw [hz] at hl hsl HT
 clear hz
 by_cases h64 : 64 < fs.length
 · have h64z : (64 : Int) < (fs.length : Int) := by omega
   have HE := Ho (show rv = ev (ad 1) by rw [← HR.o]; unfold ckf; rw [if_pos h64]; rfl)
   have hgl : w.cell? ⟨2, 0, none⟩ = _ := HG.o.gl 1 (by decide)
   go_enter Tryz.func91, Tryz.ntmps91
   go_wp2
   go_ret
   rw [HE.o]
   exact ⟨rfl, Up.refl _⟩
 · have h64z : ¬ (64 : Int) < (fs.length : Int) := by omega
   have HR2 := Ho (show rv = eoV ad (if fs.all mbf = false then some 5 else none) by rw [← HR.o]; unfold ckf; rw [if_neg h64])
   go_enter Tryz.func91, Tryz.ntmps91
   go_wp2
   go_loopw [11] (fun v8 wr => ∃ i : Nat, v8 = .int .i64 (i : Int) ∧ i ≤ fs.length ∧ Hd (Up w wr ∧ (fs.take i).all mbf = true)) (fun v8 _ => fs.length - (intOf v8).toNat)
   case atStart => exact ⟨0, rfl, Nat.zero_le _, Ho ⟨Up.refl _, rfl⟩⟩
   case round =>
    obtain ⟨i, rfl, hi, hU⟩ := hrel
    have HU := Ho hU.o
    clear hU
    by_cases hil : i < fs.length
    · have hilz : (i : Int) < (fs.length : Int) := by omega
      obtain ⟨b, off, rfl, k1, k2⟩ := HF.o.cells i hil
      have HRg := Ho (range2 (HU.o.1.cell k1) (HU.o.1.cell k2))
      have HTk := Ho (List.take_succ_eq_append_getElem hil)
      have HMm := Ho (List.getElem_mem hil)
      obtain ⟨f, hf⟩ := ny (fs[i])
      rw [hf] at HRg HTk HMm
      have h5 := HT.o (i + 1)
      rw [HTk.o, szs_snoc] at h5
      unfold szf at h5
      clear hf k1 k2
      go_wp2_with (with_reducible refine sI 34 ?_)
      show wpList _ _ _ _ _ _
      refine wpList_val7 (.pointer (some ⟨b, off + i * 2, none⟩)) rfl (exec_idxFd i hil rfl rfl rfl) ?_
      simp only [Act.put, pB, pC, pD]
      refine wpList_load_mid rfl _ _ rfl b (off + i * 2) rfl [.string f.n, .string f.v] _ HRg.o Tryz.underlying87 rfl infoFd2 ?_
      simp only [Act.put, pB, pC, pD]
      have HAt := Ho (at_new wr 87 [.string f.n, .string f.v])
      have HUa := Ho (HU.o.1.alloc (.cells [.string f.n, .string f.v].toArray 87))
      have hfn : f.n.size ≤ 1099511627776 := by omega
      have hfv : f.v.size ≤ 1099511627776 := by omega
      go_wp2_with (with_reducible refine sL 87 ?_)
      show wpList _ _ _ _ _ _
      refine wpList_load_mid rfl _ _ rfl wr.heap.size 0 rfl [.string f.n, .string f.v] _ HAt.o.range Tryz.underlying87 rfl infoFd2 ?_
      simp only [Act.put, pB, pC, pD]
      go_wp2_with fail
      refine (mayBeField_walk f.n f.v hfn hfv _).mono ?_
      rintro e w5 ⟨rfl, u5⟩
      have HU5 := Ho (HUa.o.trans u5)
      clear u5 HAt
      dsimp only
      cases hm : (tok f.n.data.toList && vlu f.v.data.toList) with
      | false =>
       have HE := Ho (show rv = ev (ad 5) by rw [HR2.o, if_pos (List.all_eq_false.2 ⟨f, HMm.o, by simp [mbf, hm]⟩)]; rfl)
       have hgl : w5.cell? ⟨13, 0, none⟩ = _ := (HG.o.up HU5.o).gl 5 (by decide)
       clear hm
       go_wp2
       go_ret
       rw [HE.o]
       exact ⟨rfl, HU5.o⟩
      | true =>
       have HA2 := Ho (show (fs.take (i + 1)).all mbf = true by rw [HTk.o, List.all_append, HU.o.2]; simp [mbf, hm])
       clear hm
       go_wp2
       go_roundw
       all_goals first
        | exact ⟨i + 1, by go_num, by omega, Ho ⟨HU5.o, HA2.o⟩⟩
        | (simp [intOf]; omega)
    · have hilz : ¬ (i : Int) < (fs.length : Int) := by omega
      have HTk := Ho (show fs.take i = fs from List.take_of_length_le (by omega))
      have HE := Ho (show rv = .nilIface by
       have h1 := HU.o.2
       rw [HTk.o] at h1
       rw [HR2.o, if_neg (by rw [h1]; simp)]
       rfl)
      go_wp2
      go_ret
      rw [HE.o]
      exact ⟨rfl, HU.o.1⟩
def vtx (m : Int) : List UInt8 := [72, 84, 84, 80, 47, 49, 46] ++ Go.Lib.itoa m
set_option maxRecDepth 100000 in
theorem versionText_walk (m : Int) (h0 : -9223372036854775808 ≤ m) (h1 : m ≤ 9223372036854775807) (w : World) (hN : GN w) : Calls Tryz.prog 44 #[.int .i64 m] w fun e w' => e = .returned (vs (vtx m)) ∧ Up w w' := by
 have HF := Ho (FormatNumber_walk m h0 h1 w hN)
 have hlen : ¬ 9223372036854775807 < 7 + (Go.Lib.itoa m).length := by have := itoa_len m h0 h1; omega
 clear hN
 go_enter Tryz.func44, Tryz.ntmps44
 go_wp2_with fail
 refine HF.o.mono ?_
 rintro e w2 ⟨rfl, h9⟩
 have HU := Ho h9
 clear h9
 dsimp only
 go_wp2
 go_ret
 refine ⟨?_, HU.o⟩
 show Ending.returned (Value.string (_ ++ _)) = _
 rw [ba_app]
 simp [vtx]
def mnr (m : Int) : Bool := m == 0 || m == 1
set_option maxRecDepth 100000 in
theorem isMinor_walk (m : Int) (w : World) : Calls Tryz.prog 90 #[.int .i64 m] w fun e w' => e = .returned (.bool (mnr m)) ∧ w' = w := by
 cases h0 : (m == 0) with
 | true =>
  go_enter Tryz.func90, Tryz.ntmps90
  go_wp2
  go_ret
  exact ⟨by unfold mnr; rw [h0]; rfl, rfl⟩
 | false =>
  go_enter Tryz.func90, Tryz.ntmps90
  go_wp2
  go_ret
  exact ⟨by unfold mnr; rw [h0]; rfl, rfl⟩
def ctlN : ByteArray := ⟨#[67, 111, 110, 116, 101, 110, 116, 45, 76, 101, 110, 103, 116, 104]⟩
def lnf (n : Nat) : FD := ⟨ctlN, ⟨(Go.Lib.itoa (n : Int)).toArray⟩⟩
set_option maxRecDepth 100000 in
theorem lengthOf_walk (a : Option Addr) (n c : Nat) (hn : n ≤ 1099511627776) (w : World) (hN : GN w) : Calls Tryz.prog 41 #[.slice a n c] w fun e w' => e = .returned (.agg #[.string (lnf n).n, .string (lnf n).v]) ∧ Up w w' := by
 have HU0 := Ho ((Up.refl w).alloc (.cells #[.string ⟨#[]⟩, .string ⟨#[]⟩] 87))
 have HA0 := Ho (at_new w 87 [.string ⟨#[]⟩, .string ⟨#[]⟩])
 have HF := Ho (FormatNumber_walk (n : Int) (by omega) (by omega) _ (hN.up HU0.o))
 clear hN
 go_enter Tryz.func41, Tryz.ntmps41
 go_wp2_with fail
 refine HF.o.mono ?_
 rintro e w2 ⟨rfl, h9⟩
 have HU2 := Ho (HU0.o.trans h9)
 have HA2 := Ho (HA0.o.up h9)
 clear h9
 dsimp only
 go_wp2_with (with_reducible refine sS 87 ?_)
 show wpList _ _ _ _ _ _
 refine wpList_store_at rfl 87 _ _ rfl w.heap.size HA2.o [.string (lnf n).n, .string (lnf n).v] rfl rfl rfl (by kernel_rfl) (by kernel_rfl) ?_
 intro w8 hA8 hg8
 have HA8 := Ho hA8
 have HU8 := Ho (HU2.o.bz hg8)
 clear hA8 hg8
 simp only [Act.put]
 repeat go_step
 refine bodyPost_ret (results_agg1 Tryz.results41 _ _ w.heap.size [.string (lnf n).n, .string (lnf n).v] rfl HA8.o.range Tryz.underlying87 rfl (by kernel_rfl)) rfl ?_
 exact ⟨rfl, HU8.o⟩
end Go.Proofs.YtkaoalcffgnfeaaGreatDoor
namespace Go.Proofs.YtkaoalcffgnfeaaGreatDoor
open Go.RowKit Go.Shelf TextNum
def kep (f : FD) : Bool := !(kdf f.n == 3 || kdf f.n == 4)
def tfd (f : FD) : FD := ⟨f.n, ⟨(trm f.v.data.toList).toArray⟩⟩
def pfs (fs : List FD) : List FD := (fs.filter kep).map tfd
theorem pfs_yes {fs : List FD} {f : FD} (h : kep f = true) : pfs (fs ++ [f]) = pfs fs ++ [tfd f] := by simp [pfs, h]
theorem pfs_no {fs : List FD} {f : FD} (h : kep f = false) : pfs (fs ++ [f]) = pfs fs := by simp [pfs, h]
theorem szs_pfs : ∀ fs : List FD, szs (pfs fs) ≤ szs fs
 | [] => Nat.le_refl _
 | f :: r => by
  have h := szs_pfs r
  have e : szs (f :: r) = szf f + szs r := by simp [szs]; omega
  cases hk : kep f with
  | true =>
   have e2 : pfs (f :: r) = tfd f :: pfs r := by simp [pfs, hk]
   have e3 : szs (tfd f :: pfs r) = szf (tfd f) + szs (pfs r) := by simp [szs]; omega
   have h4 : szf (tfd f) ≤ szf f := by
    unfold szf tfd
    have h5 := trm_len f.v.data.toList
    have h6 : (⟨(trm f.v.data.toList).toArray⟩ : ByteArray).size = (trm f.v.data.toList).length := by simp [ByteArray.size]
    have h7 := Go.Lib.size_eq f.v
    show f.n.size + (⟨(trm f.v.data.toList).toArray⟩ : ByteArray).size + 4 ≤ _
    omega
   rw [e, e2, e3]
   omega
  | false =>
   have e2 : pfs (f :: r) = pfs r := by simp [pfs, hk]
   rw [e, e2]
   omega
theorem pfs_len (fs : List FD) : (pfs fs).length ≤ fs.length := by
 unfold pfs
 rw [List.length_map]
 exact List.length_filter_le _ _
set_option maxRecDepth 100000 in
set_option maxHeartbeats 2000000 in
theorem printedFields_walk (a : Option Addr) (fs : List FD) (c : Nat) (w : World) (h : FdL w a fs c) (hl : szs fs ≤ 1099511627776) (hK : w.rangeAt 16 0 kdC) :
 Calls Tryz.prog 40 #[.slice a fs.length c] w fun e w' => (∃ a2 c2, e = .returned (.slice a2 (pfs fs).length c2) ∧ Hd (FdO w' w.heap.size a2 (pfs fs) c2)) ∧ Up w w' := by
 have HF := Ho h
 have HKd := Ho hK
 have hcap := h.cap
 have hsl := szs_len fs
 have HZ := Ho (fun i => Nat.le_trans (szs_take fs i) hl)
 clear h hK hl
 have hfl : fs.length ≤ 1099511627776 := by have := HZ.o fs.length; rw [List.take_length] at this; omega
 clear hsl
 go_enter Tryz.func40, Tryz.ntmps40
 go_wp2
 go_loopw [3, 8] (fun v3 v8 wr => ∃ i : Nat, v8 = .int .i64 (i : Int) ∧ i ≤ fs.length ∧ ∃ q a7 c7, v3 = .slice a7 q c7 ∧ q ≤ i ∧ Hd (FdO wr w.heap.size a7 (pfs (fs.take i)) c7 ∧ Up w wr ∧ (pfs (fs.take i)).length = q)) (fun _ v8 _ => fs.length - (intOf v8).toNat)
 case atStart => exact ⟨0, rfl, Nat.zero_le _, 0, none, 0, rfl, Nat.le_refl _, Ho ⟨World.ownsRow_nil _ _ _ _, Up.refl _, rfl⟩⟩
 case round =>
  obtain ⟨i, rfl, hi, q, a7, c7, rfl, hqi, hU⟩ := hrel
  have HQ := Ho hU.o
  clear hU
  by_cases hil : i < fs.length
  · have hilz : (i : Int) < (fs.length : Int) := by omega
    obtain ⟨b, off, rfl, k1, k2⟩ := HF.o.cells i hil
    have HRg := Ho (range2 (HQ.o.2.1.cell k1) (HQ.o.2.1.cell k2))
    have HT := Ho (List.take_succ_eq_append_getElem hil)
    obtain ⟨f, hf⟩ := ny (fs[i])
    rw [hf] at HRg HT
    have h5 := HZ.o (i + 1)
    rw [HT.o, szs_snoc] at h5
    unfold szf at h5
    have hfv : f.v.size ≤ 4611686018427387904 := by omega
    have HLn := Ho HQ.o.2.2
    clear hf k1 k2 h5
    go_wp2_with (with_reducible refine sI 34 ?_)
    show wpList _ _ _ _ _ _
    refine wpList_val7 (.pointer (some ⟨b, off + i * 2, none⟩)) rfl (exec_idxFd i hil rfl rfl rfl) ?_
    simp only [Act.put, pB, pC, pD]
    refine wpList_load_mid rfl _ _ rfl b (off + i * 2) rfl [.string f.n, .string f.v] _ HRg.o Tryz.underlying87 rfl infoFd2 ?_
    simp only [Act.put, pB, pC, pD]
    have HAt := Ho (at_new wr 87 [.string f.n, .string f.v])
    have HUr := Ho ((Up.refl wr).alloc (.cells [.string f.n, .string f.v].toArray 87))
    have HNb := Ho (show (Value.slice a7 q c7).ownBlock ≠ some wr.heap.size from fun e => by
     have h1 := HQ.o.1
     unfold FdO at h1
     rw [HLn.o] at h1
     have h2 := World.ownsRow.lt h1 wr.heap.size e
     omega)
    go_wp2_with (with_reducible refine sL 87 ?_)
    show wpList _ _ _ _ _ _
    refine wpList_load_mid rfl _ _ rfl wr.heap.size 0 rfl [.string f.n, .string f.v] _ HAt.o.range Tryz.underlying87 rfl infoFd2 ?_
    simp only [Act.put, pB, pC, pD]
    go_wp2_with fail
    refine (kindOf_walk f.n f.v _ (range_up HKd.o (HQ.o.2.1.trans HUr.o))).mono ?_
    rintro e w4 ⟨rfl, u5⟩
    have HU4 := Ho ((HQ.o.2.1.trans HUr.o).trans u5)
    have HAt4 := Ho (HAt.o.up u5)
    have HO4 := Ho (ow_up (ow_up HQ.o.1 HUr.o) u5)
    clear u5 HAt HRg HUr HQ
    dsimp only
    cases h3 : (kdf f.n == 3) with
    | true =>
     have HS7 := Ho (show pfs (fs.take (i + 1)) = pfs (fs.take i) by rw [HT.o, pfs_no (by simp [kep, h3])])
     have HO8 := Ho (show FdO w4 w.heap.size a7 (pfs (fs.take (i + 1))) c7 by rw [HS7.o]; exact HO4.o)
     have HL8 := Ho (show (pfs (fs.take (i + 1))).length = q by rw [HS7.o]; exact HLn.o)
     go_wp2
     go_roundw
     all_goals first
      | exact ⟨i + 1, by go_num, by omega, q, a7, c7, rfl, by omega, Ho ⟨HO8.o, HU4.o, HL8.o⟩⟩
      | (simp [intOf]; omega)
    | false =>
     cases h4 : (kdf f.n == 4) with
     | true =>
      have HS7 := Ho (show pfs (fs.take (i + 1)) = pfs (fs.take i) by rw [HT.o, pfs_no (by simp [kep, h3, h4])])
      have HO8 := Ho (show FdO w4 w.heap.size a7 (pfs (fs.take (i + 1))) c7 by rw [HS7.o]; exact HO4.o)
      have HL8 := Ho (show (pfs (fs.take (i + 1))).length = q by rw [HS7.o]; exact HLn.o)
      go_wp2
      go_roundw
      all_goals first
       | exact ⟨i + 1, by go_num, by omega, q, a7, c7, rfl, by omega, Ho ⟨HO8.o, HU4.o, HL8.o⟩⟩
       | (simp [intOf]; omega)
     | false =>
      have HT2 := Ho (show pfs (fs.take (i + 1)) = pfs (fs.take i) ++ [tfd f] by rw [HT.o, pfs_yes (by simp [kep, h3, h4])])
      have HL7 := Ho (show (pfs (fs.take (i + 1))).length = q + 1 by rw [HT2.o, List.length_append, HLn.o]; rfl)
      go_wp2
      refine wp_region_held_drew (S := fun w2 => At w2 wr.heap.size 87 [.string f.n, .string f.v] ∧ Up w w2) (by kernel_rfl) ⟨HAt4.o.up (Up.refl _).drew, HU4.o.drew⟩ (fun hS => ?_)
      refine tN 0 (some 14) (.move (.tmp 3)) 34 (.slice a7 q c7) hS ?_
      simp only [pA, pB, pC, pD]
      refine tN 1 (some 15) (.fieldAddr 87 (.tmp 5) 0) 0 (.pointer (some ⟨wr.heap.size, 0, none⟩)) hS ?_
      simp only [pA, pB, pC, pD]
      refine tK 2 (some 16) (.load 9 (.tmp 15)) 9 (.string f.n) hS ?_ ?_
      · intro _ _ w5 hSw
        have h0 := hSw.1.cell (i := 0) rfl
        clear hSw hS
        go_simp
      simp only [pA, pB, pC, pD]
      refine tN 3 (some 17) (.fieldAddr 87 (.tmp 5) 1) 0 (.pointer (some ⟨wr.heap.size, 1, none⟩)) hS ?_
      simp only [pA, pB, pC, pD]
      refine tK 4 (some 18) (.load 9 (.tmp 17)) 9 (.string f.v) hS ?_ ?_
      · intro _ _ w5 hSw
        have h0 := hSw.1.cell (i := 1) rfl
        clear hSw hS
        go_simp
      simp only [pA, pB, pC, pD]
      refine rD 5 (some 19) (.call ⟨.value (.func 84), #[.tmp 18], #[9]⟩) 9 fun _ _ K hK => ?_
      rw [if_pos (by kernel_rfl)]
      go_simp
      refine (trim_walk f.v hfv w4.drew).mono ?_
      rintro e w6 ⟨rfl, h9⟩
      have HU6 := Ho (HU4.o.drew.trans h9)
      have HAt6 := Ho ((HAt4.o.up (Up.refl _).drew).up h9)
      have HO6 := Ho (ow_up (ow_up HO4.o (Up.refl _).drew) h9)
      have HVt := Ho (show vs (trm f.v.data.toList) = .string (tfd f).v from rfl)
      clear h9 hS
      rw [HVt.o]
      dsimp only
      refine hK.out _ _ ⟨HAt6.o, HU6.o⟩ (fun hS => ?_)
      clear hK K
      refine tN 6 (some 20) (.build 87 #[(0, .tmp 16), (1, .tmp 19)]) 87 (.agg #[.string f.n, .string (tfd f).v]) hS ?_
      simp only [Act.put, pB, pC, pD]
      refine rD 7 (some 21) (.buildSlice 34 1 #[(0, .tmp 20)]) 34 fun _ _ K hK => ?_
      rw [if_pos (by kernel_rfl)]
      go_simp
      refine hK.out _ _ ⟨hS.1.up ((Up.refl _).alloc _), hS.2.alloc _⟩ (fun hS => ?_)
      clear hK K
      refine rD 8 (some 22) (.call ⟨.builtin .append, #[.tmp 14, .tmp 21], #[34, 34]⟩) 34 fun _ _ K hK => oper_of_list ?_
      refine wpList_appFd (w := w6) (N := w.heap.size) rfl _ _ rfl a7 c7 (pfs (fs.take i)) (tfd f) HLn.o rfl rfl HO6.o HU6.o.size (by omega) ?_
      intro ax2 cx2 w7 o7 u7 g7
      have HO7 := Ho (show FdO w7 w.heap.size ax2 (pfs (fs.take (i + 1))) cx2 by rw [HT2.o]; exact o7)
      have HU7 := Ho (u7 w HU6.o (Nat.le_refl _))
      have HAt7 := Ho (HAt6.o.by g7 (HNb.o))
      clear o7 u7 g7
      refine hK.out _ _ ⟨HAt7.o, HU7.o⟩ (fun hS => ?_)
      clear hK K
      simp only [Act.put, pB, pC, pD]
      refine tN 9 (some 3) (.assign (.tmp 22)) 34 (.slice ax2 (q + 1) cx2) hS ?_
      simp only [pA, pB, pC, pD]
      clear hS
      refine wpAnyH_done (by kernel_rfl) ?_ _
      go_wp2
      go_roundw
      all_goals first
       | exact ⟨i + 1, by go_num, by omega, q + 1, ax2, cx2, rfl, by omega, Ho ⟨HO7.o, HU7.o, HL7.o⟩⟩
       | (simp [intOf]; omega)
  · have hilz : ¬ (i : Int) < (fs.length : Int) := by omega
    have HTk := Ho (show fs.take i = fs from List.take_of_length_le (by omega))
    rw [HTk.o] at HQ
    go_wp2
    go_ret
    exact ⟨⟨a7, c7, by rw [HQ.o.2.2]; rfl, Ho HQ.o.1⟩, HQ.o.2.1⟩
end Go.Proofs.YtkaoalcffgnfeaaGreatDoor
