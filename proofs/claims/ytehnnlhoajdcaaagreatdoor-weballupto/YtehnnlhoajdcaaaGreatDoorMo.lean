import Derived.Test.YtehnnlhoajdcaaaGreatDoorMm
import Derived.BigRegionIn
namespace Go.Proofs.YtehnnlhoajdcaaaGreatDoor
open Go.RowKit Go.Shelf TextNum
attribute [local go_sem] Oper.semAt_some
def fln (ln : List UInt8) : FD := ⟨⟨(c1 58 (tcr ln)).toArray⟩, ⟨(trm (c2 58 (tcr ln))).toArray⟩⟩
def fok (ln : List UInt8) : Bool := (Go.Lib.cut (tcr ln) [58]).2.2 && (tok (c1 58 (tcr ln)) && vlu (trm (c2 58 (tcr ln))))
def rdf (l : List UInt8) : Er (List FD) := if 64 < Go.Lib.countByte l 10 then .error 1 else if (linesOf l).all fok = true then .ok ((linesOf l).map fln) else .error 5
theorem tcr_suf (l : List UInt8) : Go.Lib.trimSuffix l [13] = tcr l := by
 unfold Go.Lib.trimSuffix tcr
 have h : Go.Lib.hasSuffix l [13] = decide (l.getLast? = some 13) := by
  rw [Bool.eq_iff_iff, decide_eq_true_eq]
  unfold Go.Lib.hasSuffix
  rw [List.isSuffixOf_iff_suffix]
  constructor
  · rintro ⟨t, rfl⟩; simp
  intro h
  obtain ⟨t, ht⟩ := List.getLast?_eq_some_iff.1 h
  exact ⟨t, ht.symm⟩
 rw [h]
 by_cases hl : l.getLast? = some 13
 · rw [if_pos (decide_eq_true hl), if_pos hl, List.dropLast_eq_take]
   rfl
 rw [if_neg (by simpa using hl), if_neg hl]
theorem TrimCr_walk (s : ByteArray) (hs : s.size ≤ 1048576) (w : World) : Calls Tryz.prog 151 #[.string s, .string ⟨#[13]⟩] w fun e w' => e = .returned (vs (tcr s.data.toList)) ∧ w' = w := by
 have h := Any.strings_TrimSuffix Tryz.lays102 s ⟨#[13]⟩ w (by omega)
 rw [show (⟨#[13]⟩ : ByteArray).data.toList = [13] from rfl, tcr_suf] at h
 exact h
theorem Up.keeps {W W' : World} (h : Up W W') (B : Nat) : KeepsFrom B W W' := ⟨h.size, fun k _ _ hk _ => (h.block k (lt_of_at hk)).trans hk⟩
theorem Boxed.up {W W' : World} {B : Nat} {t : TypeId} {v : Value} (h : Boxed W B t v) (k : Up W W') : Boxed W' B t v := (k.block B h.lt).trans h
def rdR (ad : Nat → Addr) (w w' : World) (e : Ending) : Er (List FD) → Prop
 | .error k => e = .returned (.tuple #[.slice none 0 0, ev (ad k)])
 | .ok fs => ∃ a c, e = .returned (.tuple #[.slice a fs.length c, .nilIface]) ∧ Hd (FdO w' w.heap.size a fs c)
def fls (pre : List LnS) : List FD := pre.map fun x => fln x.1.2
theorem fd_new (w : World) (nm vl : ByteArray) : ∀ j u, [Value.string nm, Value.string vl][j]? = some u → (w.alloc (.cells #[.string nm, .string vl] 89)).cell? ((⟨w.heap.size, 0, none⟩ : Addr).add j) = some u := fun j u hu => by
 rw [Addr.add_lit]
 exact At.cell (at_new w 89 [.string nm, .string vl]) (i := 0 + j) (by rw [Nat.zero_add]; exact hu)
theorem rd_fin {w W : World} {D : Nat} {a : Option Addr} {n c : Nat} {fs : List FD} {ad : Nat → Addr} (hD : w.heap.size + 1 < D) (hK : W.heap[D]? = some (.deferred (some []))) (hrow : W.ownsRow w.heap.size 89 2 (.slice a n c) fs.length (fdc fs)) (hB : Below w.heap.size w W)
  (c2 : Boxed W w.heap.size 36 (.slice none 0 0)) (c3 : Boxed W (w.heap.size + 1) 106 .nilIface) (tmps : Array Value) (h2 : tmps.getD 2 undef = .pointer (some ⟨w.heap.size, 0, none⟩)) (h3 : tmps.getD 3 undef = .pointer (some ⟨w.heap.size + 1, 0, none⟩)) :
  ∃ r, (results Tryz.f117 tmps).run Tryz.prog ((((W.setCell ⟨w.heap.size, 0, none⟩ (.slice a n c)).setCell ⟨w.heap.size + 1, 0, none⟩ .nilIface).putObj D (.deferred none))) = .ok r ((((W.setCell ⟨w.heap.size, 0, none⟩ (.slice a n c)).setCell ⟨w.heap.size + 1, 0, none⟩ .nilIface).putObj D (.deferred none))) ∧
   rdR ad w ((((W.setCell ⟨w.heap.size, 0, none⟩ (.slice a n c)).setCell ⟨w.heap.size + 1, 0, none⟩ .nilIface).putObj D (.deferred none))) (.returned r) (.ok fs) ∧ Up w ((((W.setCell ⟨w.heap.size, 0, none⟩ (.slice a n c)).setCell ⟨w.heap.size + 1, 0, none⟩ .nilIface).putObj D (.deferred none))) := by
 have G1 := grownBy_setCell' W w.heap.size (.slice a n c)
 have G2 := grownBy_setCell' (W.setCell ⟨w.heap.size, 0, none⟩ (.slice a n c)) (w.heap.size + 1) .nilIface
 have hK' : ((W.setCell ⟨w.heap.size, 0, none⟩ (.slice a n c)).setCell ⟨w.heap.size + 1, 0, none⟩ .nilIface).heap[D]? = some (.deferred (some [])) := by
  rw [Below.heap_setCell _ _ _ _ (by show D ≠ w.heap.size + 1; omega), Below.heap_setCell _ _ _ _ (by show D ≠ w.heap.size; omega)]; exact hK
 have G3 := grownBy_putObj' ((W.setCell ⟨w.heap.size, 0, none⟩ (.slice a n c)).setCell ⟨w.heap.size + 1, 0, none⟩ .nilIface) D (.deferred none)
 have g2 := ((c2.set (.slice a n c)).kept G2 (by simp)).kept G3 (by simp; omega)
 have g3 := ((c3.kept G1 (by simp)).set .nilIface).kept G3 (by simp; omega)
 have n2 := c2.not_row (by decide) hrow
 have n3 := c3.not_row (by decide) hrow
 have r1 := hrow.kept G1 (.inr fun h => n2 h.symm)
 have r2 := r1.kept G2 (.inr fun h => n3 h.symm)
 have r3 := ownsRow_putObj r2 (.deferred none) hK' rfl
 have B3 : Below w.heap.size w (((W.setCell ⟨w.heap.size, 0, none⟩ (.slice a n c)).setCell ⟨w.heap.size + 1, 0, none⟩ .nilIface).putObj D (.deferred none)) := (((hB.setCell (p := ⟨w.heap.size, 0, none⟩) (by simp) _).setCell (p := ⟨w.heap.size + 1, 0, none⟩) (by show w.heap.size ≤ w.heap.size + 1; omega) _)).trans (belowK_b (w := w) (Nat.le_refl _) _ D _ _ (by omega) hK' rfl rfl)
 have hn : n = fs.length := by
  rcases hrow.2 with ⟨e, h0⟩ | ⟨g, cap, cur, e, _⟩
  · injection e with _ e _
    omega
  injection e with _ e _
 subst hn
 exact ⟨_, results_cell2 rfl tmps _ _ _ _ _ h2 h3 g2.cell g3.cell Tryz.underlying36 rfl Tryz.underlying106 rfl, ⟨a, c, rfl, Ho r3⟩, B3⟩
def RB (w : World) (pre : List LnS) (W : World) : Prop :=
 ((∃ v, Boxed W (w.heap.size + 1 + 1) 36 v ∧ W.ownsRow w.heap.size 89 2 v (fls pre).length (fdc (fls pre)) ∧ True) ∧ Below w.heap.size w W) ∧ (Boxed W w.heap.size 36 (.slice none 0 0) ∧ Boxed W (w.heap.size + 1) 106 .nilIface)
theorem RB_own (w : World) (n : Nat) (hn : w.heap.size ≤ n) : OwnFrom n (RB w) :=
 OwnFrom.and (OwnFrom.and (Own.from (holdsRow_own w.heap.size (w.heap.size + 1 + 1) 36 89 2 (fun pre : List LnS => (fls pre).length) (fun pre => fdc (fls pre)) (fun _ _ => True)) _) (ownFrom_below (Nat.le_refl _) hn)) (OwnFrom.and (boxed_own _ _ _ _) (boxed_own _ _ _ _))
def RX (ad : Nat → Addr) (w : World) (W : World) : Prop := Boxed W w.heap.size 36 (.slice none 0 0) ∧ Boxed W (w.heap.size + 1) 106 (ev (ad 5)) ∧ Below w.heap.size w W
theorem RX_own (ad : Nat → Addr) (w : World) (n : Nat) (hn : w.heap.size ≤ n) : OwnFrom (β := List LnS) n (fun _ W => RX ad w W) :=
 OwnFrom.and (boxed_own _ _ _ _) (OwnFrom.and (boxed_own _ _ _ _) (ownFrom_below (Nat.le_refl _) hn))
set_option maxRecDepth 100000 in
set_option maxHeartbeats 2000000 in
theorem readFields_walk (ad : Nat → Addr) (s : ByteArray) (hs : s.size ≤ 16384) (w : World) (h : GE w ad) : Calls Tryz.prog 117 #[.string s] w fun e w' => rdR ad w w' e (rdf s.data.toList) ∧ Up w w' := by
 have HG := Ho h
 clear h
 have HCt := Ho (fun w2 => Any.strings_Count_one Tryz.lays138 s 10 w2)
 have hcn : Go.Lib.countByte s.data.toList 10 ≤ 1048576 := by
  have h1 : Go.Lib.countByte s.data.toList 10 ≤ s.data.toList.length := List.count_le_length
  rw [← Go.Lib.size_eq] at h1
  omega
 have HRd := Ho (show rdf s.data.toList = if 64 < Go.Lib.countByte s.data.toList 10 then .error 1 else if (linesOf s.data.toList).all fok = true then .ok ((linesOf s.data.toList).map fln) else .error 5 from rfl)
 generalize Go.Lib.countByte s.data.toList 10 = cn at *
 refine (callsIn_wide (n := 4)).1 ?_
 refine callsIn_of_wp_marks Tryz.func117 rfl trivial ?_ rfl
 simp only [Tryz.ntmps117, List.size_toArray, List.length_cons, List.length_nil, Nat.reduceAdd, Nat.reduceSub, Array.replicate_succ, Array.replicate_zero, List.push_toArray, List.append_toArray, List.nil_append, List.cons_append]
 gi_wp2_with fail
 refine ⟨trivial, ?_⟩
 refine (callsIn_wide.2 (HCt.o _)).mono ?_
 rintro e w' ⟨rfl, hw⟩
 obtain rfl := hw.symm
 dsimp only
 have b2 := (Boxed.new w 36 (.slice none 0 0)).alloc (.cells #[.nilIface] 106)
 have b3 := Boxed.new (w.alloc (.cells #[.slice none 0 0] 36)) 106 .nilIface
 rw [World.size_alloc] at b3
 have hU : Up w ((w.alloc (.cells #[.slice none 0 0] 36)).alloc (.cells #[.nilIface] 106)) := ((Up.refl w).alloc _).alloc _
 have hsz : ((w.alloc (.cells #[.slice none 0 0] 36)).alloc (.cells #[.nilIface] 106)).heap.size = w.heap.size + 1 + 1 := by simp
 generalize ((w.alloc (.cells #[.slice none 0 0] 36)).alloc (.cells #[.nilIface] 106)) = W1 at *
 have HB := Ho (And.intro b2 (And.intro b3 hU))
 clear b2 b3 hU
 by_cases h64 : 64 < cn
 · have h64z : (64 : Int) < (cn : Int) := by omega
   have HE := Ho (show rdf s.data.toList = .error 1 by rw [HRd.o, if_pos h64])
   have hgl : W1.cell? ⟨2, 0, none⟩ = _ := (HG.o.up HB.o.2.2).gl 1 (by decide)
   have k2 := HB.o.1.cell
   have f2 := HB.o.1.frozen
   have k3 := HB.o.2.1.cell
   have f3 := HB.o.2.1.frozen
   have HU3 := Ho (HB.o.2.2.by (grownBy_setCell' W1 w.heap.size (.slice none 0 0)) (fun g hg => by have := Option.some.inj hg; omega))
   have hgl2 : (W1.setCell ⟨w.heap.size, 0, none⟩ (.slice none 0 0)).cell? ⟨2, 0, none⟩ = _ := (HG.o.up HU3.o).gl 1 (by decide)
   have B3 := Ho (HB.o.2.1.kept (grownBy_setCell' W1 w.heap.size (.slice none 0 0)) (by simp))
   have B2 := Ho (HB.o.1.set (.slice none 0 0))
   have k4 := B3.o.cell
   have f4 := B3.o.frozen
   gi_wp2
   gi_region
   all_goals (have B5 := Ho ((B3.o.set (ev (ad 1)))))
   all_goals (have B4 := Ho (B2.o.kept (grownBy_setCell' (W1.setCell ⟨w.heap.size, 0, none⟩ (.slice none 0 0)) (w.heap.size + 1) (ev (ad 1))) (by simp)))
   all_goals (have HU6 := Ho (HU3.o.by (grownBy_setCell' (W1.setCell ⟨w.heap.size, 0, none⟩ (.slice none 0 0)) (w.heap.size + 1) (ev (ad 1))) (fun g hg => by have := Option.some.inj hg; omega)))
   all_goals gi_wp2
   rw [HE.o]
   exact ⟨_, results_cell2 rfl _ _ _ _ _ _ rfl rfl B4.o.cell B5.o.cell Tryz.underlying36 rfl Tryz.underlying106 rfl, rfl, HU6.o.drew⟩
 have h64z : ¬ (64 : Int) < (cn : Int) := by omega
 have HR2 := Ho (show rdf s.data.toList = if (linesOf s.data.toList).all fok = true then .ok ((linesOf s.data.toList).map fln) else .error 5 by rw [HRd.o, if_neg h64])
 clear h64 HRd HCt
 gi_wp2_with fail
 refine ⟨trivial, ?_⟩
 refine (callsIn_wide.2 (each_in s _)).mono ?_
 rintro e w' ⟨rfl, hw⟩
 obtain rfl := hw.symm
 dsimp only
 have c2 := (HB.o.1.alloc (.cells #[.slice none 0 0] 36)).alloc (.cells #[.string s] 9)
 have c3 := (HB.o.2.1.alloc (.cells #[.slice none 0 0] 36)).alloc (.cells #[.string s] 9)
 have c4 := (Boxed.new W1 36 (.slice none 0 0)).alloc (.cells #[.string s] 9)
 have c5 := Boxed.new (W1.alloc (.cells #[.slice none 0 0] 36)) 9 (.string s)
 have hU5 : Up w ((W1.alloc (.cells #[.slice none 0 0] 36)).alloc (.cells #[.string s] 9)) := (HB.o.2.2.alloc _).alloc _
 rw [World.size_alloc] at c5
 have hsz5 : ((W1.alloc (.cells #[.slice none 0 0] 36)).alloc (.cells #[.string s] 9)).heap.size = w.heap.size + 1 + 1 + 1 + 1 := by simp [hsz]
 simp only [World.size_alloc, hsz] at c4 c5 ⊢
 generalize ((W1.alloc (.cells #[.slice none 0 0] 36)).alloc (.cells #[.string s] 9)) = W5 at *
 have h00 : RB w [] W5 := ⟨⟨⟨_, c4, World.ownsRow_nil _ _ _ _, trivial⟩, hU5⟩, c2, c3⟩
 clear c2 c3 c4 hU5 HB hsz W1
 gi_wp2_with fail
 refine wpIn_rangeFunc_ownG rfl (by decide) (gf := 180) (lb := #[.pointer (some ⟨w.heap.size + 1 + 1 + 1, 0, none⟩)]) rfl trivial (enters_of Tryz.func180 (by kernel_rfl) rfl)
  (each_stops2 3 (by decide) (w.heap.size + 1 + 1 + 1) w.heap.size s hs W5 (by omega) c5.cell) belowK_t (belowK_b (by omega)) (Below.refl _ _) (fun _ => rfl)
  (fun (pre : List LnS) W => (pre.all fun x => fok x.1.2) = true ∧ RB w pre W)
  (fun c pre W => (c = .ret ∧ (pre.all fun x => fok x.1.2) = false) ∧ RX ad w W)
  (fun s W W' row hs hg hr => ⟨hs.1, RB_own w W5.heap.size (by omega) s W W' row hs.2 hg hr⟩)
  (fun c s W W' row hs hg hr => ⟨hs.1, RX_own ad w W5.heap.size (by omega) s W W' row hs.2 hg hr⟩)
  ⟨rfl, h00⟩
  (fun x => { tmps := #[.string s, undef, .pointer (some ⟨w.heap.size, 0, none⟩), .pointer (some ⟨w.heap.size + 1, 0, none⟩), .pointer (some ⟨w.heap.size + 1 + 1, 0, none⟩), undef, .string ⟨x.1.2.toArray⟩, undef, undef, undef, undef, .string s, .int .i64 (cn : Int), .bool false, undef, .string s, .func (.func 180) #[] #[.pointer (some ⟨w.heap.size + 1 + 1 + 1, 0, none⟩)], .int .i64 (x.1.1 : Int), .string ⟨x.1.2.toArray⟩, undef, undef, undef, undef, undef, undef, undef, undef, undef, undef, undef, undef, undef, undef, undef, undef, undef, undef, undef, undef, undef, undef, undef, undef], defers := [] }) ?assign ?body ?done ?stop
 case assign =>
  intro l x W K hK
  gi_wp2
  exact hK
 case body =>
  rintro l pre x W ⟨hall, hb⟩ hlt
  obtain ⟨⟨⟨v, hv, hrow, _⟩, hB⟩, e2, e3⟩ := hb
  obtain ⟨⟨k, y⟩, hy⟩ := x
  dsimp only at hy ⊢
  have hys : (⟨y.toArray⟩ : ByteArray).size ≤ 1048576 := by rw [str_len]; omega
  gi_wp2_with fail
  refine ⟨trivial, ?_⟩
  refine (CallsIn.inRound l (callsIn_wide.2 (TrimCr_walk ⟨y.toArray⟩ hys W))).mono ?_
  rintro e w' ⟨rfl, hw⟩
  obtain rfl := hw.symm
  dsimp only
  gi_wp2_with fail
  have hcl := c_len 58 (tcr y)
  have htl := tcr_len y
  refine ⟨trivial, ?_⟩
  refine (CallsIn.inRound l (callsIn_wide.2 (Cut_up ⟨(tcr y).toArray⟩ (by rw [str_len]; omega) 58 W))).mono ?_
  rintro e w2 ⟨rfl, h9⟩
  have HU2 := Ho h9
  clear h9
  dsimp only
  gi_wp2_with fail
  refine ⟨trivial, ?_⟩
  refine (CallsIn.inRound l (callsIn_wide.2 (trim_walk ⟨(c2 58 (tcr y)).toArray⟩ (by rw [str_len]; omega) w2))).mono ?_
  rintro e w3 ⟨rfl, h9⟩
  have HU3' := Ho (HU2.o.trans h9)
  clear h9 HU2
  dsimp only
  have HFk := Ho (show fok y = ((Go.Lib.cut (tcr y) [58]).2.2 && (tok (c1 58 (tcr y)) && vlu (trm (c2 58 (tcr y))))) from rfl)
  have HFl := Ho (show fln y = ⟨⟨(c1 58 (tcr y)).toArray⟩, ⟨(trm (c2 58 (tcr y))).toArray⟩⟩ from rfl)
  have htr := trm_len (c2 58 (tcr y))
  obtain ⟨nm, hnm⟩ := ny (⟨(c1 58 (tcr y)).toArray⟩ : ByteArray)
  obtain ⟨vl, hvl⟩ := ny (⟨(trm (c2 58 (tcr y))).toArray⟩ : ByteArray)
  have hnd : c1 58 (tcr y) = nm.data.toList := by rw [← hnm]
  have hvd : trm (c2 58 (tcr y)) = vl.data.toList := by rw [← hvl]
  have hns : nm.size ≤ 1048576 := by rw [Go.Lib.size_eq, ← hnd]; omega
  have hvs : vl.size ≤ 1048576 := by rw [Go.Lib.size_eq, ← hvd]; omega
  rw [hnm, hvl] at HFl
  rw [hnd, hvd] at HFk
  rw [hnd, hvd, vs_data', vs_data']
  generalize (Go.Lib.cut (tcr y) [58]).2.2 = ok at *
  generalize c2 58 (tcr y) = c2y at *
  generalize tcr y = ty at *
  clear hnm hvl hnd hvd htr hcl htl
  have HA3 := Ho (at_new w3 89 [.string nm, .string vl])
  have HUW := Ho (HU3'.o.alloc (.cells #[.string nm, .string vl] 89))
  have HBx := Ho (And.intro (Boxed.up e2 HUW.o) (And.intro (Boxed.up e3 HUW.o) (Up.trans hB HUW.o)))
  cases ok with
  | false =>
   have hF : fok y = false := by rw [HFk.o]; rfl
   have hgl : (w3.alloc (.cells #[.string nm, .string vl] 89)).cell? ⟨15, 0, none⟩ = _ := (HG.o.up HBx.o.2.2).gl 5 (by decide)
   have k2 := HBx.o.1.cell
   have f2 := HBx.o.1.frozen
   have k3 := HBx.o.2.1.cell
   have f3 := HBx.o.2.1.frozen
   have HU3 := Ho (HBx.o.2.2.by (grownBy_setCell' (w3.alloc (.cells #[.string nm, .string vl] 89)) w.heap.size (.slice none 0 0)) (fun g hg => by have := Option.some.inj hg; omega))
   have hgl2 : ((w3.alloc (.cells #[.string nm, .string vl] 89)).setCell ⟨w.heap.size, 0, none⟩ (.slice none 0 0)).cell? ⟨15, 0, none⟩ = _ := (HG.o.up HU3.o).gl 5 (by decide)
   have B3 := Ho (HBx.o.2.1.kept (grownBy_setCell' (w3.alloc (.cells #[.string nm, .string vl] 89)) w.heap.size (.slice none 0 0)) (by simp))
   have B2 := Ho (HBx.o.1.set (.slice none 0 0))
   have k4 := B3.o.cell
   have f4 := B3.o.frozen
   have B5 := Ho (B3.o.set (ev (ad 5)))
   have B4 := Ho (B2.o.kept (grownBy_setCell' ((w3.alloc (.cells #[.string nm, .string vl] 89)).setCell ⟨w.heap.size, 0, none⟩ (.slice none 0 0)) (w.heap.size + 1) (ev (ad 5))) (by simp))
   have HU6 := Ho (HU3.o.by (grownBy_setCell' ((w3.alloc (.cells #[.string nm, .string vl] 89)).setCell ⟨w.heap.size, 0, none⟩ (.slice none 0 0)) (w.heap.size + 1) (ev (ad 5))) (fun g hg => by have := Option.some.inj hg; omega))
   gi_wp2
   refine ⟨trivial, ?_⟩
   gi_wp2
   gi_region
   all_goals gi_wp2
   all_goals refine ⟨(HUW.o.keeps _).trans ((((KeepsOthers.setCell (w3.alloc (.cells #[.string nm, .string vl] 89)) _ _).trans (KeepsOthers.setCell _ _ _)).trans (KeepsOthers.drew _)).from _), ⟨rfl, ?_⟩, B4.o, B5.o, HU6.o.drew⟩
   all_goals rw [List.all_append]
   all_goals simp [hF]
  | true =>
   have HMb := Ho (mayBeField_walk nm vl (by omega) (by omega) (w3.alloc (.cells #[.string nm, .string vl] 89)))
   gi_wp2_with fail
   refine ⟨trivial, ?_⟩
   refine (CallsIn.inRound l (callsIn_wide.2 HMb.o)).mono ?_
   rintro e w4 ⟨rfl, h9⟩
   have HUW4 := Ho (HUW.o.trans h9)
   have HA4 := Ho (HA3.o.up h9)
   clear h9 HMb HA3 HUW HBx
   dsimp only
   have HBy := Ho (And.intro (Boxed.up e2 HUW4.o) (And.intro (Boxed.up e3 HUW4.o) (Up.trans hB HUW4.o)))
   cases hmf : (tok nm.data.toList && vlu vl.data.toList) with
   | false =>
    have hF : fok y = false := by rw [HFk.o, hmf]; rfl
    clear hmf
    have hgl : (w4).cell? ⟨15, 0, none⟩ = _ := (HG.o.up HBy.o.2.2).gl 5 (by decide)
    have k2 := HBy.o.1.cell
    have f2 := HBy.o.1.frozen
    have k3 := HBy.o.2.1.cell
    have f3 := HBy.o.2.1.frozen
    have HU3 := Ho (HBy.o.2.2.by (grownBy_setCell' (w4) w.heap.size (.slice none 0 0)) (fun g hg => by have := Option.some.inj hg; omega))
    have hgl2 : ((w4).setCell ⟨w.heap.size, 0, none⟩ (.slice none 0 0)).cell? ⟨15, 0, none⟩ = _ := (HG.o.up HU3.o).gl 5 (by decide)
    have B3 := Ho (HBy.o.2.1.kept (grownBy_setCell' (w4) w.heap.size (.slice none 0 0)) (by simp))
    have B2 := Ho (HBy.o.1.set (.slice none 0 0))
    have k4 := B3.o.cell
    have f4 := B3.o.frozen
    have B5 := Ho (B3.o.set (ev (ad 5)))
    have B4 := Ho (B2.o.kept (grownBy_setCell' ((w4).setCell ⟨w.heap.size, 0, none⟩ (.slice none 0 0)) (w.heap.size + 1) (ev (ad 5))) (by simp))
    have HU6 := Ho (HU3.o.by (grownBy_setCell' ((w4).setCell ⟨w.heap.size, 0, none⟩ (.slice none 0 0)) (w.heap.size + 1) (ev (ad 5))) (fun g hg => by have := Option.some.inj hg; omega))
    gi_wp2
    gi_region
    all_goals gi_wp2
    all_goals refine ⟨(HUW4.o.keeps _).trans ((((KeepsOthers.setCell (w4) _ _).trans (KeepsOthers.setCell _ _ _)).trans (KeepsOthers.drew _)).from _), ⟨rfl, ?_⟩, B4.o, B5.o, HU6.o.drew⟩
    all_goals rw [List.all_append]
    all_goals simp [hF]
   | true =>
    have hF : fok y = true := by rw [HFk.o, hmf]; rfl
    clear hmf
    have HV4 := Ho (Boxed.up hv HUW4.o)
    have HR4 := Ho (ow_up hrow HUW4.o)
    have hc4 := HV4.o.cell
    have ha0 : w4.cell? ⟨w3.heap.size, 0, none⟩ = some (.string nm) := HA4.o.cell (i := 0) rfl
    have ha1 : w4.cell? ⟨w3.heap.size, 1, none⟩ = some (.string vl) := HA4.o.cell (i := 1) rfl
    obtain ⟨av, cv, rfl⟩ : ∃ a c, v = .slice a (fls pre).length c := by
     rcases hrow.2 with ⟨rfl, e⟩ | ⟨g, cap, cur, rfl, _⟩
     · exact ⟨none, 0, by rw [e]⟩
     exact ⟨_, _, rfl⟩
    have hfl : (fls pre).length = pre.length := by simp [fls]
    have hll := lines_len s.data.toList
    rw [← Go.Lib.size_eq] at hll
    have HW4s := Ho (show w.heap.size ≤ w4.heap.size from Nat.le_trans hB.size HUW4.o.size)
    have HFs := Ho (show fls (pre ++ [⟨(k, y), hy⟩]) = fls pre ++ [⟨nm, vl⟩] by simp [fls, HFl.o])
    obtain ⟨i1, hi1, hz0, hz1, hz2⟩ := info_parts Tryz.infoFd
    have hsn : (fls pre).length ≤ 16384 := by rw [hfl]; omega
    obtain ⟨nf, hnf⟩ := ny ((fls pre).length)
    have HNf := Ho hnf
    rw [hnf] at hsn HR4 hc4 HV4
    clear hfl hnf
    gi_wp2_with (gi_at_builtin; refine wpListIn_append_own _ rfl _ _ 36 rfl w.heap.size 89 i1 (.agg #[.string ⟨#[]⟩, .string ⟨#[]⟩]) 2 32 Tryz.underlying36 hi1 hz0 hz1 hz2 rfl (by decide) _ _ _ rfl (HR4.o.alloc _) ⟨w4.heap.size, 0, none⟩ 1 1 [.string nm, .string vl] rfl rfl (fd_new w4 nm vl) (by simp [Value.oneCell']) (by unfold maxLen; omega) (by omega) (by have := HW4s.o; simp; omega) ?_; intro v' w5 hown' hgrow' _; obtain ⟨g', cap', rfl⟩ := ownsRow_succ hown'; obtain ⟨hv1, hv2, hr2, hk2, hb2⟩ := HV4.o.appended (by decide) HR4.o HW4s.o (by omega) hown' hgrow'; have hc1 := hv1.cell; have hf1 := hv1.frozen; have f2 := ((HBy.o.1.alloc _).kept hgrow' (HBy.o.1.not_row (by decide) HR4.o)).kept (grownBy_setCell' w5 (w.heap.size + 1 + 1) (.slice (some ⟨g', 0, none⟩) (nf + 1) cap')) (by simp; omega); have f3 := ((HBy.o.2.1.alloc _).kept hgrow' (HBy.o.2.1.not_row (by decide) HR4.o)).kept (grownBy_setCell' w5 (w.heap.size + 1 + 1) (.slice (some ⟨g', 0, none⟩) (nf + 1) cap')) (by simp))
    refine ⟨(HUW4.o.keeps _).trans (hk2.from _), (HUW4.o.mono hB.size).trans hb2, ?_, ⟨⟨⟨_, hv2, ?_, trivial⟩, (hB.trans (HUW4.o.mono hB.size)).trans hb2⟩, f2, f3⟩⟩
    · rw [List.all_append, hall]
      simp [hF]
    rw [HFs.o, fdc_snoc, List.length_append, HNf.o]
    exact hr2
 case done =>
  rintro D ys W hD hys ⟨hall, hb⟩ hK
  obtain ⟨⟨⟨v, hv, hrow, _⟩, hB⟩, e2, e3⟩ := hb
  obtain ⟨av, nv, cv, rfl⟩ : ∃ a n c, v = .slice a n c := by
   rcases hrow.2 with ⟨rfl, e⟩ | ⟨g, cap, cur, rfl, _⟩
   · exact ⟨none, 0, 0, rfl⟩
   exact ⟨_, _, _, rfl⟩
  have hc := hv.cell
  have hc2 := e2.cell
  have hf2 := e2.frozen
  have hc3 := (e3.kept (grownBy_setCell' W w.heap.size (.slice av nv cv)) (by simp)).cell
  have hf3 := (e3.kept (grownBy_setCell' W w.heap.size (.slice av nv cv)) (by simp)).frozen
  gi_wp2
  refine ⟨by simp, .inl ⟨_, _, rfl, run_takeDeferred ?_, ?_⟩⟩
  · rw [Below.heap_setCell _ _ _ _ (by show D ≠ w.heap.size + 1; omega), Below.heap_setCell _ _ _ _ (by show D ≠ w.heap.size; omega)]; exact hK
  have hyl : ys.map (fun x => x.1.2) = linesOf s.data.toList := by
   have h1 := congrArg (List.map (·.2)) hys
   rw [ixn_map, List.map_map] at h1
   exact h1
  have hfl : fls ys = (linesOf s.data.toList).map fln := by
   rw [← hyl, List.map_map]; rfl
  have hal : (linesOf s.data.toList).all fok = true := by
   rw [← hyl, List.all_map]; exact hall
  rw [HR2.o, if_pos hal]
  rw [hfl] at hrow
  exact rd_fin (by omega) hK hrow hB e2 e3 _ rfl rfl
 case stop =>
  rintro D c pre W hD ⟨r, hr⟩ ⟨⟨rfl, hall⟩, hX⟩ hK
  gi_wp2
  refine ⟨by simp, .inl ⟨_, _, rfl, run_takeDeferred hK, ?_⟩⟩
  have hal : ¬ (linesOf s.data.toList).all fok = true := by
   intro h1
   have h2 := congrArg (List.map (·.2)) hr
   rw [ixn_map, List.map_append, List.map_map] at h2
   rw [h2, List.all_append, List.all_map] at h1
   rw [Bool.and_eq_true] at h1
   have h3 : (pre.all fun x => fok x.1.2) = true := h1.1
   rw [hall] at h3
   cases h3
  rw [HR2.o, if_neg hal]
  have g2 := hX.1.kept (grownBy_putObj' W D (.deferred none)) (by have := hX.1.lt; simp; omega)
  have g3 := hX.2.1.kept (grownBy_putObj' W D (.deferred none)) (by have := hX.2.1.lt; simp; omega)
  exact ⟨_, results_cell2 rfl _ _ _ _ _ _ rfl rfl g2.cell g3.cell Tryz.underlying36 rfl Tryz.underlying106 rfl, rfl, hX.2.2.trans (belowK_b (w := w) (Nat.le_refl _) _ D _ _ (by omega) hK rfl rfl)⟩
end Go.Proofs.YtehnnlhoajdcaaaGreatDoor
