import Derived.Test.YtbdbpmeaiiodgaaDoorTm
import Derived.RangeFuncSeq
namespace Go.Proofs.YtbdbpmeaiiodgaaDoor
open Go.RowKit TextNum
theorem infoMv : (Tryd.prog.info? 31).map (·.size) = some 2 := by kernel_rfl
theorem result_cells2 {P : Program} {fn : Func} {q : Tmp} {T : TypeId} (h : fn.results = #[.cell q T]) (tmps : Array Value) (w : World) (b : Nat) (cs : List Value) {d : TypeDesc}
    (hp : tmps.getD q undef = .pointer (some ⟨b, 0, none⟩)) (hc : w.rangeAt b 0 cs) (hu : P.underlying T = some d) (hd : d.isRow = true) (hi : (P.info? T).map (·.size) = some cs.length) : (results fn tmps).run P w = .ok (.agg cs.toArray) w := by
  have hp' : tmps[q]?.getD undef = .pointer (some ⟨b, 0, none⟩) := by simpa using hp
  simp [results, h, hp', asAddr, run_loadVar_mid w b 0 T cs _ hc hu hd hi]
theorem grownBy_setCell2 (W : World) (p : Addr) (v : Value) : W.grownBy (W.setCell p v) (some p.block) :=
  ⟨rfl, rfl, rfl, (KeepsWalks.setCell W p v).size, fun k _ hk => Below.heap_setCell _ _ _ k (fun e => hk (by rw [e]))⟩
/-- the result's place -/
def Bx (W : World) (b : Nat) : Prop := ∃ p q, W.cell? ⟨b, 0, none⟩ = some p ∧ W.cell? ⟨b, 1, none⟩ = some q ∧ W.frozen? ⟨b, 0, none⟩ = false ∧ W.frozen? ⟨b, 1, none⟩ = false
theorem Bx.by {w w' : World} {b : Nat} {row : Option Nat} (h : Bx w b) (hg : w.grownBy w' row) (hr : ∀ r, row = some r → b ≠ r) : Bx w' b := by
  obtain ⟨p, q, h1, h2, h3, h4⟩ := h
  have e := hg.block b (block_lt_of_cell h1) (fun e => hr b e.symm rfl)
  exact ⟨p, q, by rw [World.cell?_of_block e]; exact h1, by rw [World.cell?_of_block e]; exact h2, by rw [World.frozen?_of_block e]; exact h3, by rw [World.frozen?_of_block e]; exact h4⟩
theorem wpList_appB {ops : Array Oper} {rest : List Oper} {o : Oper} {a : Act} {w : World} {t : TypeId} {Q : Exit → Act → World → Prop} (hgd : o.guard = none) (s x : Operand)
    (ho : o.op = .call { callee := .builtin .append, args := #[s, x], argTypes := #[22, 22] }) (B : Nat) (v : Value) (l : List UInt8) (y : UInt8) (hs : a.eval s = v) (hown : Own w B v l)
    (hx : a.eval x = .slice (some ⟨w.heap.size, 0, none⟩) 1 1) (hn : l.length < 1099511627776) (hB : B ≤ w.heap.size)
    (h : ∀ v' w', Own w' B v' (l ++ [y]) → (w.alloc (.cells #[.int .u8 (y.toNat : Int)] t)).grownBy w' v.ownBlock → (∀ g, v'.ownBlock = some g → v.ownBlock = some g ∨ w.heap.size ≤ g) → Sl w' v l → wpList Tryd.prog ops Q rest (a.put o.dst v') w') : wpList Tryd.prog ops Q (o :: rest) a (w.alloc (.cells #[.int .u8 (y.toNat : Int)] t)) := by
  refine wpList_plain hgd fun K hK => ?_
  obtain ⟨v', w', hr, h2, h3, h4, h5⟩ := append_B (ty := o.type) (Own.below hown ((Up.refl w).alloc (.cells #[.int .u8 (y.toNat : Int)] t))) y ⟨w.heap.size, 0, none⟩ (by rw [World.cell?_alloc_at _ _ _ _ rfl]; rfl) hn (by rw [World.size_alloc]; omega)
  unfold Oper.wp execOp
  simp only [ho, resolve, invoke, builtin, Sem.run_bind, Sem.run_pure, Result.andThen_ok, List.map_toArray, List.map_cons, List.map_nil, hs, hx, hr]
  exact hK _ _ (h v' w' h2 h3 (fun g hg => by
    rcases h4 g hg with h | h
    · exact .inl h
    · right; rw [World.size_alloc] at h; omega) h5)
set_option maxRecDepth 100000 in
set_option maxHeartbeats 1000000 in
theorem moved_walk (v : Value) (l : List UInt8) (n : UInt8) (B : Nat) (w : World) (hO : Own w B v l) (hB : B ≤ w.heap.size) (hl : l.length ≤ 1048576) :
    Calls Tryd.prog 16 #[v, vb n] w fun e w' => ∃ v2, e = .returned (.agg #[v, v2]) ∧ Sl w' v (addn n l) ∧ Sl w' v2 (addn n l ++ [n]) ∧ (∀ b, v2.ownBlock = some b → v.ownBlock = some b ∨ w.heap.size ≤ b) ∧ w.grownBy w' v.ownBlock := by
  obtain ⟨a0, c0, rfl⟩ := hO.len
  have hlt : ∀ r, (Value.slice a0 l.length c0).ownBlock = some r → r < w.heap.size := fun r hr => (World.ownsRow.lt hO r hr).2
  have HO := Hid.of hO
  clear hO
  show Calls Tryd.prog 16 #[.slice a0 l.length c0, .int .u8 (n.toNat : Int)] w _
  go_enter Tryd.func16, Tryd.ntmps16
  go_wp2_with fail
  have hb0 : Bx (w.alloc (.cells #[.slice none 0 0, .slice none 0 0] 31)) w.heap.size := ⟨_, _, by rw [World.cell?_alloc_at _ _ _ _ rfl]; rfl, by rw [World.cell?_alloc_at _ _ _ _ rfl]; rfl, World.frozen?_alloc_new _ _ _ _, World.frozen?_alloc_new _ _ _ _⟩
  have HW0 := Hid.of (And.intro (Own.below HO.out ((Up.refl w).alloc (.cells #[.slice none 0 0, .slice none 0 0] 31))) (And.intro hb0 (World.grownBy_alloc w (.cells #[.slice none 0 0, .slice none 0 0] 31) (Value.slice a0 l.length c0).ownBlock)))
  clear hb0
  generalize w.alloc (.cells #[.slice none 0 0, .slice none 0 0] 31) = W0 at *
  go_loopw [5] (fun v5 wr => ∃ i : Nat, v5 = .int .i64 (i : Int) ∧ Hid (i ≤ l.length ∧ Own wr B (.slice a0 l.length c0) (part' n l i) ∧ Bx wr w.heap.size ∧ w.grownBy wr (Value.slice a0 l.length c0).ownBlock)) (fun v5 _ => l.length - (intOf v5).toNat)
  case atStart => exact ⟨0, rfl, by omega, by rw [part_zero]; exact HW0.out.1, HW0.out.2.1, HW0.out.2.2⟩
  case round =>
    obtain ⟨i, rfl, hI⟩ := hrel
    by_cases hi : i < l.length
    · have hi' : (i : Int) < (l.length : Int) := by omega
      obtain ⟨g, rfl, hcell⟩ : ∃ g, a0 = some ⟨g, 0, none⟩ ∧ wr.cell? ⟨g, i, none⟩ = some (.int .u8 (l[i].toNat : Int)) := by
        have hO2 := hI.out.2.1
        obtain ⟨a, c, e, _, h⟩ := hO2.sl
        rcases hO2.2 with ⟨e2, e3⟩ | ⟨g, cap, cur, e2, _⟩
        · rw [part_len] at e3; omega
        · have e4 : a0 = some ⟨g, 0, none⟩ := by injection e2
          refine ⟨g, e4, ?_⟩
          have := World.ownsRow.cells hO2 (g := g) (by rw [e4]; rfl) i (.int .u8 (l[i].toNat : Int)) (by
            rw [cb_get (by rw [part_len]; exact hi), part_get hi])
          rwa [add_plain, Nat.zero_add] at this
      have hfr : wr.frozen? ⟨g, i, none⟩ = false := by
        have h5 := hI.out.2.1
        have h6 : wr.ownsRow B 5 1 (.slice (some ⟨g, 0, none⟩) (part' n l i).length c0) (part' n l i).length (cb (part' n l i)) := by
          rw [part_len] at *
          unfold Own at h5
          rw [part_len] at h5
          exact h5
        exact World.ownsRow.frozenAt h6 i
      have hsum := u8_sum l[i] n
      have hp := Own.put hI.out.2.1 (part_len n l i).symm i (l[i] + n)
      rw [part_set hi] at hp
      have HN := Hid.of (And.intro hp.1 (And.intro (hI.out.2.2.1.by hp.2 (fun r e => by injection e with e; have := hlt g rfl; omega)) (by_trans hI.out.2.2.2 hp.2)))
      clear hI hp
      unfold vb at HN
      generalize l[i] + n = y at *
      generalize l[i].toNat = x at *
      go_wp2
      go_roundw
      case rel => exact ⟨i + 1, by go_num, by omega, HN.out.1, HN.out.2.1, HN.out.2.2⟩
      case measure => simp [intOf]; omega
    · have hi' : ¬ (i : Int) < (l.length : Int) := by omega
      have HE := Hid.of (show Own wr B (.slice a0 l.length c0) (addn n l) ∧ Bx wr w.heap.size ∧ w.grownBy wr (Value.slice a0 l.length c0).ownBlock from by
        have h1 := hI.out
        obtain rfl : i = l.length := by omega
        rw [part_all] at h1
        exact h1.2)
      clear hI
      go_wp2_with (with_reducible show wpList _ _ _ ({ dst := _, op := Op.call { callee := Callee.builtin Builtin.append, args := _, argTypes := _ }, type := _, pos := _, after := _, guard := _ } :: _) _ _; refine Shut.out ?_)
      show wpList _ _ _ _ _ _
      refine wpList_appB rfl _ _ rfl B (.slice a0 l.length c0) (addn n l) n rfl HE.out.1 rfl (by simp [addn]; omega) (Nat.le_trans hB HE.out.2.2.size) ?_
      intro v2 W4 ho4 hg4 hv4 hs4
      have hga : w.grownBy W4 (Value.slice a0 l.length c0).ownBlock := by_trans (by_trans HE.out.2.2 (World.grownBy_alloc wr (.cells #[.int .u8 (n.toNat : Int)] 5) _)) hg4
      have hbx : Bx W4 w.heap.size := (HE.out.2.1.by (World.grownBy_alloc wr (.cells #[.int .u8 (n.toNat : Int)] 5) none) (fun r e => by cases e)).by hg4 (fun r e => by have := hlt r e; omega)
      obtain ⟨p0, p1, k0, k1, k2, k3⟩ := hbx
      have hbb : ∀ b, v2.ownBlock = some b → (Value.slice a0 l.length c0).ownBlock = some b ∨ w.heap.size < b := fun b hb => by
        rcases hv4 b hb with h | h
        · exact .inl h
        · right
          have := block_lt_of_cell (HE.out.2.1.choose_spec.choose_spec.1)
          have h2 : w.heap.size < wr.heap.size := this
          omega
      obtain ⟨a2, c2, rfl⟩ := ho4.len
      have HF := Hid.of (And.intro hs4 (And.intro ho4 (And.intro hbb hga)))
      clear hs4 ho4 hv4 hg4 hga hbb HE
      simp only [Act.put, List.setIfInBounds_toArray, List.set_cons_zero, List.set_cons_succ]
      generalize hl2 : (addn n l ++ [n]).length = l2 at *
      have HL2 := Hid.of hl2
      clear hl2
      have hth : W4.there w.heap.size 0 2 := fun j hj => by
        rcases (by omega : j = 0 ∨ j = 1) with rfl | rfl
        · exact ⟨by rw [show (0 : Nat) + 0 = 0 from rfl, k0]; rfl, k2⟩
        · exact ⟨by rw [show (0 : Nat) + 1 = 1 from rfl, k1]; rfl, k3⟩
      have hrg := World.rangeAt_setCells_same W4 w.heap.size 0 [Value.slice a0 l.length c0, Value.slice a2 l2 c2] hth
      have hgs : W4.grownBy (W4.setCells w.heap.size 0 [Value.slice a0 l.length c0, Value.slice a2 l2 c2]) (some w.heap.size) := by_trans (grownBy_setCell2 W4 ⟨w.heap.size, 0, none⟩ _) (grownBy_setCell2 _ ⟨w.heap.size, 1, none⟩ _)
      have hn1 : ∀ r, some w.heap.size = some r → (Value.slice a0 l.length c0).ownBlock ≠ some r := fun r e e2 => by
        injection e with e
        have := hlt r e2
        omega
      have hn2 : ∀ r, some w.heap.size = some r → (Value.slice a2 l2 c2).ownBlock ≠ some r := fun r e e2 => by
        injection e with e
        rcases HF.out.2.2.1 r e2 with h | h
        · have := hlt r h; omega
        · omega
      have HG := Hid.of (And.intro (HF.out.1.by hgs hn1) (And.intro ((show Sl W4 (.slice a2 l2 c2) (addn n l ++ [n]) from HF.out.2.1.sl).by hgs hn2) (show w.grownBy (W4.setCells w.heap.size 0 [Value.slice a0 l.length c0, Value.slice a2 l2 c2]) (Value.slice a0 l.length c0).ownBlock from ⟨hgs.os.trans HF.out.2.2.2.os, hgs.tape.trans HF.out.2.2.2.tape, hgs.output.trans HF.out.2.2.2.output, Nat.le_trans HF.out.2.2.2.size hgs.size, fun k hk hr => (hgs.block k (Nat.lt_of_lt_of_le hk HF.out.2.2.2.size) (by intro e; injection e with e; omega)).trans (HF.out.2.2.2.block k hk hr)⟩)))
      have HRG := Hid.of hrg
      clear hth hrg hgs hn1 hn2
      go_wp2_with fail
      change bodyPost _ _ _ _ _ (W4.setCells w.heap.size 0 [Value.slice a0 l.length c0, Value.slice a2 l2 c2])
      generalize W4.setCells w.heap.size 0 [Value.slice a0 l.length c0, Value.slice a2 l2 c2] = WZ at *
      refine bodyPost_ret (result_cells2 Tryd.results16 _ _ w.heap.size _ rfl HRG.out Tryd.underlying31 rfl infoMv) rfl ?_
      exact ⟨_, rfl, HG.out.1, HG.out.2.1, fun b hb => by
        rcases HF.out.2.2.1 b hb with h | h
        · exact .inl h
        · right; omega, HG.out.2.2⟩
end Go.Proofs.YtbdbpmeaiiodgaaDoor
