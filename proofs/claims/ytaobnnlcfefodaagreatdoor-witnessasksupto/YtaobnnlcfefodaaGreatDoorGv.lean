import Derived.Test.YtaobnnlcfefodaaGreatDoorFm
import Derived.Test.YtaobnnlcfefodaaGreatDoorFg
namespace Go.Proofs.YtaobnnlcfefodaaGreatDoor
open Go.RowKit TextNum
/-- a list of one's own in the midst of a block, which may bear a mark behind the list's room -/
def OwnN (w : World) (B : Nat) (v : Value) (l : List UInt8) : Prop := ∃ g off cap cur fr, v = .slice (some ⟨g, off, none⟩) l.length cap ∧ B ≤ g ∧ w.heap[g]? = some (.cells cur 5 fr) ∧ (fr.2 = 0 ∨ off + cap ≤ fr.1) ∧ l.length ≤ cap ∧ cap ≤ maxLen ∧ off + cap ≤ cur.size ∧ ∀ i (h : i < l.length), cur[off + i]? = some (.int .u8 (l[i].toNat : Int))
theorem OwnM.n {w : World} {B : Nat} {v : Value} {l : List UInt8} (h : OwnM w B v l) : OwnN w B v l := by
  obtain ⟨g, cap, cur, fr, e, hB, hg, hfr, hl, hc, hs, ht⟩ := h
  refine ⟨g, 0, cap, cur, fr, e, hB, hg, by rw [Nat.zero_add]; exact hfr, hl, hc, by omega, fun i hi => ?_⟩
  have := cb_get hi
  rw [← ht, List.getElem?_take, if_pos hi] at this
  rw [Nat.zero_add]
  simpa using this
theorem OwnN.sl {w : World} {B : Nat} {v : Value} {l : List UInt8} (h : OwnN w B v l) : Sl w v l := by
  obtain ⟨g, off, cap, cur, fr, rfl, hB, hg, hfr, hl, hc, hs, ht⟩ := h
  exact ⟨_, cap, rfl, hl, .inr ⟨g, off, rfl, (Array.getElem?_eq_some_iff.1 hg).1, fun i hi => by rw [cell_of_row w g (off + i) cur _ fr hg]; exact ht i hi⟩⟩
theorem OwnN.by {w w' : World} {B : Nat} {v : Value} {l : List UInt8} {row : Option Nat} (h : OwnN w B v l) (hg : w.grownBy w' row) (hr : ∀ r, row = some r → v.ownBlock ≠ some r) : OwnN w' B v l := by
  obtain ⟨g, off, cap, cur, fr, rfl, hB, hgg, r⟩ := h
  refine ⟨g, off, cap, cur, fr, rfl, hB, ?_, r⟩
  rw [hg.block g (Array.getElem?_eq_some_iff.1 hgg).1 (fun e => hr g e.symm rfl)]
  exact hgg
theorem OwnN.up {w w' : World} {B : Nat} {v : Value} {l : List UInt8} (h : OwnN w B v l) (k : Up w w') : OwnN w' B v l := by
  obtain ⟨g, off, cap, cur, fr, rfl, hB, hgg, r⟩ := h
  refine ⟨g, off, cap, cur, fr, rfl, hB, ?_, r⟩
  rw [k.block g (Array.getElem?_eq_some_iff.1 hgg).1]
  exact hgg
theorem OwnN.lt {w : World} {B : Nat} {v : Value} {l : List UInt8} (h : OwnN w B v l) : ∀ b, v.ownBlock = some b → B ≤ b ∧ b < w.heap.size := by
  obtain ⟨g, off, cap, cur, fr, rfl, hB, hgg, r⟩ := h
  intro b hb
  injection hb with hb
  subst hb
  exact ⟨hB, (Array.getElem?_eq_some_iff.1 hgg).1⟩
theorem OwnN.len {w : World} {B : Nat} {v : Value} {l : List UInt8} (h : OwnN w B v l) : ∃ g off c, v = .slice (some ⟨g, off, none⟩) l.length c := by
  obtain ⟨g, off, cap, cur, fr, e, _⟩ := h
  exact ⟨g, off, cap, e⟩
theorem grown_set (w : World) (p : Addr) (v : Value) : w.grownBy (w.setCell p v) (some p.block) := ⟨rfl, rfl, rfl, by simp, fun k _ hk => by
  have hne : ¬ p.block = k := fun e => hk (by rw [e])
  simp only [World.setCell]
  split <;> simp [Array.getElem?_modify, hne]⟩
theorem Own.n {w : World} {B : Nat} {v : Value} {l : List UInt8} (h : Own w B v l) (hl : l ≠ []) : OwnN w B v l := by
  have h0 := h
  rcases h.2 with ⟨_, e⟩ | ⟨g, cap, cur, e, hB, hg, hnc, hcm, hs, ht⟩
  · exact absurd (List.length_eq_zero_iff.1 e) hl
  · refine ⟨g, 0, cap, cur, (0, 0), e, hB, hg, .inl rfl, hnc, hcm, by omega, fun i hi => ?_⟩
    have := cb_get hi
    rw [← ht, List.getElem?_take, if_pos (by omega)] at this
    rw [Nat.zero_add]
    simpa using this
theorem OwnN.drop {w : World} {B g off n c k : Nat} {l : List UInt8} (h : OwnN w B (.slice (some ⟨g, off, none⟩) n c) l) (hk : k < l.length) : OwnN w B (sliced (some ⟨g, off, none⟩) k n c 1) (l.drop k) := by
  obtain ⟨g', off', cap', cur, fr, e, hB, hg, hfr, hl, hc, hs, ht⟩ := h
  injection e with e1 e2 e3
  injection e1 with e1
  injection e1 with e1 e4 _
  subst e1 e4 e3 e2
  unfold sliced
  rw [if_neg (by omega), Option.map_some, Nat.mul_one, add_plain]
  refine ⟨g, off + k, c - k, cur, fr, by rw [List.length_drop], hB, hg, by omega, by rw [List.length_drop]; omega, by omega, by omega, fun i hi => ?_⟩
  rw [List.length_drop] at hi
  rw [List.getElem_drop, Nat.add_assoc]
  exact ht (k + i) (by omega)
theorem grown_setC (w : World) (b : Nat) : ∀ (vs : List Value) (o : Nat) (w' : World), w.grownBy w' (some b) → w.grownBy (w'.setCells b o vs) (some b)
  | [], _, _, h => h
  | v :: r, o, w', h => grown_setC w b r (o + 1) (w'.setCell ⟨b, o, none⟩ v) (by
    have k := grown_set w' ⟨b, o, none⟩ v
    exact ⟨k.os.trans h.os, k.tape.trans h.tape, k.output.trans h.output, Nat.le_trans h.size k.size, fun i hi hr => (k.block i (Nat.lt_of_lt_of_le hi h.size) hr).trans (h.block i hi hr)⟩)
theorem OwnN.setC {w : World} {B : Nat} {v : Value} {l : List UInt8} {b o : Nat} {vs : List Value} (h : OwnN w B v l) (hne : v.ownBlock ≠ some b) : OwnN (w.setCells b o vs) B v l :=
  h.by (grown_setC w b vs o w ⟨rfl, rfl, rfl, Nat.le_refl _, fun _ _ _ => rfl⟩) (fun r hr => by injection hr with hr; rw [← hr]; exact hne)
/-- a byte is written -/
theorem OwnN.store {w : World} {B : Nat} {g off n cap : Nat} {l : List UInt8} (h : OwnN w B (.slice (some ⟨g, off, none⟩) n cap) l) (i : Nat) (hi : i < l.length) (x : UInt8) :
    w.cell? ⟨g, off + i, none⟩ = some (.int .u8 (l[i].toNat : Int)) ∧ w.frozen? ⟨g, off + i, none⟩ = false ∧ OwnN (w.setCell ⟨g, off + i, none⟩ (.int .u8 (x.toNat : Int))) B (.slice (some ⟨g, off, none⟩) n cap) (l.set i x) := by
  obtain ⟨g', off', cap', cur, fr, e, hB, hg, hfr, hl, hc, hs, ht⟩ := h
  injection e with e1 e2 e3
  injection e1 with e1
  injection e1 with e1 e4 _
  subst e1 e4 e3 e2
  refine ⟨by rw [cell_of_row w g (off + i) cur _ fr hg]; exact ht i hi, ?_, g, off, cap, cur.setIfInBounds (off + i) (.int .u8 (x.toNat : Int)), fr, by rw [List.length_set], hB, ?_, hfr, by rw [List.length_set]; exact hl, hc, by simpa using hs, fun j hj => ?_⟩
  · obtain ⟨lo, hi'⟩ := fr
    simp only [World.frozen?, hg, Bool.and_eq_false_iff, decide_eq_false_iff_not]
    simp only at hfr
    omega
  · rw [setCell_eq_setRow w g (off + i) cur _ fr _ hg]
    exact setRow_heap w g cur _ _ _ hg
  · rw [List.length_set] at hj
    rw [Array.getElem?_setIfInBounds, List.getElem_set]
    by_cases hij : i = j
    · subst hij
      rw [if_pos rfl, if_pos (by omega), if_pos rfl]
    · rw [if_neg (by omega), if_neg hij]
      exact ht j hj
/-- a byte is appended: the old list reads as it did -/
theorem run_app_N {w : World} {B : Nat} {v : Value} {l : List UInt8} (x : UInt8) (ty : TypeId) (hown : OwnN w B v l) (ad : Addr) (c : Nat) (hx : w.cell? ad = some (.int .u8 (x.toNat : Int))) (hn : l.length < 1099511627776) :
    ∃ v' w', (Builtin.append_ #[23, 23] ty #[v, .slice (some ad) 1 c]).run Tryz.prog w = .ok v' w' ∧ Sl w' v' (l ++ [x]) ∧ Sl w' v l ∧ w.grownBy w' v.ownBlock ∧ ∀ b, v'.ownBlock = some b → (v.ownBlock = some b ∨ w.heap.size ≤ b) ∧ b < w'.heap.size := by
  obtain ⟨i, hi, hz, hsize, hby⟩ := info_parts Tryz.info8
  have ht : Tryz.prog.underlying 23 = some (.slice 5) := Tryz.underlying23
  have hadd0 : ad.add 0 = ad := by obtain ⟨b, o, sp⟩ := ad; unfold Addr.add; split <;> simp_all
  have hs : Src Tryz.prog i.size 23 (.slice (some ad) 1 c) 1 [.int .u8 (x.toNat : Int)] w := Src.ofSlice w ht ad 1 c _ (by rw [hsize]; rfl) (fun j u hj => by
    match j, hj with
    | 0, hj => simp at hj; rw [hadd0, hx, hj]) (fun u hu => by simp at hu; subst hu; rfl)
  have hsl := hown.sl
  obtain ⟨g, off, cap, cur, fr, rfl, hB, hg, hfr, hl, hc, hsz, hcell⟩ := hown
  have hcw : ∀ j (h : j < l.length), w.cell? ⟨g, off + j, none⟩ = some (.int .u8 (l[j].toNat : Int)) := fun j h => by rw [cell_of_row w g (off + j) cur _ fr hg]; exact hcell j h
  have hglt : g < w.heap.size := (Array.getElem?_eq_some_iff.1 hg).1
  by_cases hroom : l.length + 1 ≤ cap
  · have hr := run_append_room_src (P := Tryz.prog) w 23 23 ty 5 i ht hi g off l.length cap _ 1 _ hs hroom (fun j hj => by
      have hj0 : j = 0 := by simpa using hj
      subst hj0
      rw [hsize, Nat.mul_one, Nat.add_zero, cell_of_row w g (off + l.length) cur _ fr hg, Array.getElem?_eq_getElem (by omega)]
      rfl) (fun j hj => by
      have hj0 : j = 0 := by simpa using hj
      subst hj0
      rw [hsize, Nat.mul_one, Nat.add_zero]
      obtain ⟨lo, hi'⟩ := fr
      simp only [World.frozen?, hg, Bool.and_eq_false_iff, decide_eq_false_iff_not]
      simp only at hfr
      omega)
    rw [hsize, Nat.mul_one] at hr
    have hold : ∀ j (h : j < l.length), (w.setCells g (off + l.length) [.int .u8 (x.toNat : Int)]).cell? ⟨g, off + j, none⟩ = some (.int .u8 (l[j].toNat : Int)) := fun j h => (World.cell?_setCells_out _ _ _ _ _ (fun _ _ => .inl (by simp only; omega))).trans (hcw j h)
    have hnew : (w.setCells g (off + l.length) [.int .u8 (x.toNat : Int)]).cell? ⟨g, off + l.length, none⟩ = some (.int .u8 (x.toNat : Int)) := by
      show (w.setCell ⟨g, off + l.length, none⟩ _).cell? _ = _
      rw [setCell_eq_setRow w g (off + l.length) cur _ fr _ hg, cell_of_row _ g (off + l.length) _ _ fr (setRow_heap w g cur _ _ _ hg), Array.getElem?_setIfInBounds, if_pos rfl, if_pos (by omega)]
    have hz2 : (w.setCells g (off + l.length) [.int .u8 (x.toNat : Int)]).heap.size = w.heap.size := by
      show (w.setCell ⟨g, off + l.length, none⟩ _).heap.size = _
      simp
    refine ⟨_, _, hr, ⟨_, cap, by rw [List.length_append]; rfl, by rw [List.length_append]; exact hroom, .inr ⟨g, off, rfl, by rw [hz2]; exact hglt, fun j hj => ?_⟩⟩, ⟨_, cap, rfl, hl, .inr ⟨g, off, rfl, by rw [hz2]; exact hglt, hold⟩⟩, grown_set w ⟨g, off + l.length, none⟩ _, fun b hb => ?_⟩
    · rcases Nat.lt_or_ge j l.length with h | h
      · rw [List.getElem_append_left h]; exact hold j h
      · have hj2 : j = l.length := by rw [List.length_append] at hj; simp at hj; omega
        subst hj2
        rw [List.getElem_append_right (Nat.le_refl _)]
        simpa using hnew
    · injection hb with hb
      exact ⟨.inl (by rw [← hb]; rfl), by rw [hz2, ← hb]; exact hglt⟩
  · have hold := run_firstCells_some (P := Tryz.prog) w.drew i.size l.length ⟨g, off, none⟩ l.length cap (cb l) (by rw [hsize, cb_length, Nat.mul_one]) (fun j u hj => by
      have hjl : j < l.length := by have := (List.getElem?_eq_some_iff.1 hj).1; rwa [cb_length] at this
      rw [cb_get hjl] at hj
      rw [add_plain, ← hj]
      exact (World.cell?_drew _ _).trans (hcw j hjl))
    have hr := run_append_grow_src (P := Tryz.prog) w 23 23 ty 5 i _ ht hi hz (some ⟨g, off, none⟩) l.length cap (cb l) hold _ 1 _ hs (by omega) (by omega) (growslice_fits (by omega) (by rw [hby]; omega))
    have hge := grownCap_ge w (l.length + 1) cap 5
    have hup : ∀ o, Up w (w.drew.alloc o) := fun o => ((Up.refl w).drew).alloc o
    refine ⟨_, _, hr, ⟨_, _, by rw [List.length_append]; rfl, by rw [List.length_append]; exact hge, .inr ⟨w.heap.size, 0, rfl, by rw [World.alloc]; simp, fun j hj => ?_⟩⟩, hsl.up (hup _), ⟨rfl, rfl, rfl, by simp, fun k hk _ => heap_alloc_old w.drew _ hk⟩, fun b hb => ?_⟩
    · rw [cell_of_row _ w.heap.size (0 + j) _ _ _ (heap_alloc_new w.drew _), Nat.zero_add]
      have hcl : (cb l ++ [Value.int .u8 (x.toNat : Int)])[j]? = some (.int .u8 ((l ++ [x])[j].toNat : Int)) := by
        rw [show cb l ++ [Value.int .u8 (x.toNat : Int)] = cb (l ++ [x]) by rw [cb_append]; rfl]
        exact cb_get hj
      have hj3 : j < (cb l ++ [Value.int .u8 (x.toNat : Int)]).length := (List.getElem?_eq_some_iff.1 hcl).1
      rw [← Array.getElem?_toList, Array.toList_append, List.getElem?_append_left (by simpa using hj3)]
      simpa using hcl
    · injection hb with hb
      exact ⟨.inr (Nat.le_of_eq hb), by rw [← hb, World.alloc]; simp⟩
theorem wpList_appN {ops : Array Oper} {rest : List Oper} {o : Oper} {a : Act} {w : World} {Q : Exit → Act → World → Prop} (hgd : o.guard = none) (s x : Operand)
    (ho : o.op = .call { callee := .builtin .append, args := #[s, x], argTypes := #[23, 23] }) (B : Nat) (v : Value) (l : List UInt8) (y : UInt8) (hs : a.eval s = v) (hown : OwnN w B v l)
    (ad : Addr) (c : Nat) (hx : a.eval x = .slice (some ad) 1 c) (hc : w.cell? ad = some (.int .u8 (y.toNat : Int))) (hn : l.length < 1099511627776)
    (h : ∀ v' w', Sl w' v' (l ++ [y]) → Sl w' v l → w.grownBy w' v.ownBlock → (∀ b, v'.ownBlock = some b → (v.ownBlock = some b ∨ w.heap.size ≤ b) ∧ b < w'.heap.size) → wpList Tryz.prog ops Q rest (a.put o.dst v') w') : wpList Tryz.prog ops Q (o :: rest) a w := by
  refine wpList_plain hgd fun K hK => ?_
  obtain ⟨v', w', hr, h2, h3, h4, h5⟩ := run_app_N y o.type hown ad c hc hn
  unfold Oper.wp execOp
  simp only [ho, resolve, invoke, builtin, Sem.run_bind, Sem.run_pure, Result.andThen_ok, List.map_toArray, List.map_cons, List.map_nil, hs, hx, hr]
  exact hK _ _ (h v' w' h2 h3 h4 h5)
end Go.Proofs.YtaobnnlcfefodaaGreatDoor
