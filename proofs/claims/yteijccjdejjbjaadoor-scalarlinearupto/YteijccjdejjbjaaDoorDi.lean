import Derived.Test.YteijccjdejjbjaaDoorAd
import Derived.Test.YteijccjdejjbjaaDoorSu
import Derived.Test.YteijccjdejjbjaaDoorNum
namespace Go.Proofs.YteijccjdejjbjaaDoor
open Go.RowKit Go.Shelf ScalarNum

/-- the table -/
def Tab (w : World) : Prop := ∀ q, q ≤ 16 → w.rangeAt 0 (q * 4) (wl 4 (q * L % M))
theorem Tab.lt {w : World} (h : Tab w) : 0 < w.heap.size := range_lt (h 0 (by decide)) (by rw [wl_length]; decide)
theorem Tab.grown {w w' : World} (h : Tab w) (hg : Grown w w') : Tab w' := fun q hq => rangeAt_grown (h q hq) hg
theorem Tab.gb {w w' : World} {b : Nat} (h : Tab w) (hg : GB b w w') (hb : b ≠ 0) : Tab w' := fun q hq => hg.range (h q hq) (fun e => hb e.symm)

theorem wpList_loadNo {ops : Array Oper} {rest : List Oper} {op : Oper} {a : Act} {w : World} {Q : Exit → Act → World → Prop} (hgd : op.guard = none) (x : Operand) (ho : op.op = .load 62 x)
    (b o : Nat) (hx : a.eval x = .pointer (some ⟨b, o, none⟩)) (n : Nat) (hc : w.rangeAt b o (wl 4 n))
    (h : wpList Tryd.prog ops Q rest (a.put op.dst (wv 4 n)) w) : wpList Tryd.prog ops Q (op :: rest) a w :=
  wpList_load_mid hgd 62 x ho b o hx (wl 4 n) _ hc Tryd.underlying62 rfl (by rw [wl_length]; exact infoN) h

theorem top_bit {v : Nat} (hv : v < M) : dg B v 3 / 2 ^ 63 = v / 57896044618658097711785492504343953926634992332820282019728792003956564819968 := by
  unfold dg
  rw [Nat.mod_eq_of_lt (Nat.div_lt_of_lt_mul (by rw [Nat.mul_comm, ← Nat.pow_succ']; rw [B4]; exact hv)), Nat.div_div_eq_div_mul, show B ^ 3 * 2 ^ 63 = 57896044618658097711785492504343953926634992332820282019728792003956564819968 from by decide]

set_option maxRecDepth 100000 in
set_option maxHeartbeats 4000000 in
theorem divide_num (b q n : Nat) (hb : b ≠ 0) (hq : n / 7237005577332262213973186563042994240829374041602535252466099000494570602496 = q) (hq2 : q ≤ 16) (w : World) (hT : Tab w) (hr : w.rangeAt b 0 (wl 4 (n % M))) (ht : w.there b 0 4) :
    Calls Tryd.prog 61 #[.pointer (some ⟨b, 0, none⟩), .int .u64 (q : Int)] w fun e w' => e = .returned (.tuple #[]) ∧ GB b w w' ∧ w'.rangeAt b 0 (wl 4 (n % L)) ∧ w'.there b 0 4 := by
  have hb1 : (q : Int) < 17 := by omega
  have HT := Hid.of hT
  have Hr := Hid.of hr
  have Ht := Hid.of ht
  have Hq := Hid.of (And.intro hq hq2)
  have hM : n % M < M := Nat.mod_lt _ (by decide)
  have HM := Hid.of hM
  clear hT hr ht hq hq2 hM
  go_enter Tryd.func61, Tryd.ntmps61
  go_wp2_with (with_reducible show wpList _ _ _ ({ dst := _, op := Op.load 62 _, type := _, pos := _, after := _, guard := _ } :: _) _ _; refine Shut.out ?_)
  show wpList _ _ _ _ _ _
  refine wpList_loadNo rfl _ rfl 0 (q * 4) ?hp (q * L % M) (HT.out q Hq.out.2) ?_
  case hp => go_simp
  simp only [Act.put, List.setIfInBounds_toArray, List.set_cons_zero, List.set_cons_succ]
  go_wp2_with fail
  refine Calls.mono (sub_num b (n % M) (q * L % M) HM.out (Nat.mod_lt _ (by decide)) _ Hr.out Ht.out) ?_
  rintro e w1 ⟨rfl, g1, ⟨v1, c1, r1, e1, v1M⟩, t1⟩
  have hds := div_sub n q v1 c1 Hq.out.1 Hq.out.2 e1 v1M
  have d1 : w1.cell? ⟨b, 3, none⟩ = some (.int .u64 (dg B v1 3 : Nat)) := by
    have := r1 3 _ (wl_get 4 _ 3 (by decide)); rwa [Nat.zero_add] at this
  have tb := top_bit v1M
  have hd3 : dg B v1 3 < 18446744073709551616 := dg_lt B_pos
  generalize dg B v1 3 = td at *
  rw [show (2 : Nat) ^ 63 = 9223372036854775808 from rfl] at tb
  rw [← tb] at hds
  have HT1 := Hid.of (HT.out.gb g1 hb)
  have H := Hid.of (And.intro g1 (And.intro r1 (And.intro t1 (And.intro v1M hds))))
  clear HT Hr Ht Hq HM g1 r1 t1 v1M hds e1 tb
  dsimp only
  rcases (show td / 9223372036854775808 = 0 ∨ td / 9223372036854775808 = 1 by omega) with hz | hz
  · have hzi : (td : Int) / 9223372036854775808 = 0 := by omega
    have Hz := Hid.of hz
    clear hz hd3
    go_wp2
    go_end0
    obtain ⟨g1, r1, t1, v1M, hds⟩ := H.out
    refine ⟨rfl, g1, ?_, t1⟩
    have e2 : v1 = n % L := hds.1 Hz.out
    rw [← e2]; exact r1
  · have hzi : (td : Int) / 9223372036854775808 = 1 := by omega
    have Hz := Hid.of hz
    clear hz hd3
    go_wp2_with (with_reducible show wpList _ _ _ ({ dst := _, op := Op.load 62 _, type := _, pos := _, after := _, guard := _ } :: _) _ _; refine Shut.out ?_)
    show wpList _ _ _ _ _ _
    refine wpList_loadNo rfl _ rfl 0 4 ?hp2 L ?hr2 ?_
    case hp2 => go_simp
    case hr2 => have := HT1.out 1 (by decide); rwa [Nat.one_mul, Nat.one_mul, Nat.mod_eq_of_lt (by decide)] at this
    simp only [Act.put, List.setIfInBounds_toArray, List.set_cons_zero, List.set_cons_succ]
    go_wp2_with fail
    obtain ⟨g1, r1, t1, v1M, hds⟩ := H.out
    refine Calls.mono (add_num b v1 L v1M (by decide) _ r1 t1) ?_
    rintro e w2 ⟨rfl, g2, r2, t2⟩
    have e2 : (v1 + L) % M = n % L := hds.2.1 Hz.out ((v1 + L) % M) ((v1 + L) / M) (by rw [Nat.mul_comm]; exact Nat.mod_add_div _ _) (Nat.mod_lt _ (by decide))
    have g3 := GB.trans g1 g2
    rw [e2] at r2
    have H9 := Hid.of (And.intro g3 (And.intro r2 t2))
    clear H HT1 g1 r1 t1 v1M hds g2 g3 r2 t2 e2
    dsimp only
    go_wp2
    go_end0
    exact ⟨rfl, H9.out⟩
end Go.Proofs.YteijccjdejjbjaaDoor
