import Derived.Test.YtaobnnlcfefodaaGreatDoorK5
import Derived.Test.YtaobnnlcfefodaaGreatDoorK6
import Derived.Test.YtaobnnlcfefodaaGreatDoorOp
import Derived.Lib.LaidU8
import Derived.Lib.LaidTab
import Derived.LaidMore
import Derived.ProofKit
import Derived.Stop.LaidErr
import Derived.OpenShut
import Derived.ChangeSame
namespace Go.Proofs.YtaobnnlcfefodaaGreatDoor
open Go.RowKit Go.Shelf TextNum
set_option maxRecDepth 100000 in
set_option maxHeartbeats 2000000 in
/-- the program's FormatAsk of anything -/
theorem FormatAsk_far (w : World) (o : Int) (pv hv : Value) (hs : List (List UInt8)) (m : List UInt8) (hP : HL w pv hs) (hM : Sl w hv m) (hT : TabL w) (hW : Go.Lib.WhiteTab 6 w) (hG : GN w) :
    Calls Tryz.prog 7 #[.int .i64 o, pv, hv] w (FAR o hs m w) := by
  have h32 : ∀ h ∈ hs, h.length = 32 := fun h hh => by
    obtain ⟨a, c, _, _, hx⟩ := hP
    obtain ⟨j, hj, rfl⟩ := List.getElem_of_mem hh
    exact (hx j hj).1
  by_cases z : 0 ≤ o ∧ o ≤ 281474976710656 ∧ hs.length ≤ 64 ∧ isNt m
  · refine (FormatAsk_yes w o pv hv hs m hP hM hT hW hG z.1 z.2.1 z.2.2.1 z.2.2.2).mono ?_
    rintro e w' ⟨v, rfl, h1, h2⟩
    exact ⟨v, 0, rfl, h2, .inl ⟨rfl, ⟨z.1, z.2.1, z.2.2.1, h32, z.2.2.2⟩, h1⟩⟩
  have HV := Hid.of (show ¬ VA o hs m from fun h => z ⟨h.o0, h.o1, h.n, h.m⟩)
  have hI := fun hb : ¬ isNt m => isNote_walk hv m w hM hT hW false ⟨(fun h => by cases h), fun h => (hb h).elim⟩
  obtain ⟨hc, mc, rfl, hmc, _⟩ := hM
  obtain ⟨pa, pc, rfl, hpc, _⟩ := hP
  obtain ⟨n, hnn⟩ : ∃ n, hs.length = n := ⟨_, rfl⟩
  obtain ⟨k, hk⟩ : ∃ k, m.length = k := ⟨_, rfl⟩
  have HE := Hid.of (show fmE o hs.length m.length = fmE o n k by rw [hnn, hk])
  rw [hnn] at z ⊢
  rw [hk] at hI ⊢
  clear hT hW hG h32 hmc hpc hnn
  by_cases z0 : o < 0
  · have HX := Hid.of (show fmE o n k = 1 from if_pos (.inl z0))
    go_enter Tryz.func7, Tryz.ntmps7
    go_wp2
    go_ret2
    exact ⟨_, _, rfl, Up.refl _, .inr ⟨by rw [HE.out, HX.out], rfl, HV.out⟩⟩
  by_cases z1 : (281474976710656 : Int) < o
  · have HX := Hid.of (show fmE o n k = 1 from if_pos (.inr z1))
    go_enter Tryz.func7, Tryz.ntmps7
    go_wp2
    go_ret2
    exact ⟨_, _, rfl, Up.refl _, .inr ⟨by rw [HE.out, HX.out], rfl, HV.out⟩⟩
  have H1 := Hid.of (show fmE o n k = if 64 < n ∨ 65536 < k then 2 else 211 from if_neg (by omega))
  by_cases z2 : (64 : Int) < (n : Int)
  · have HX := Hid.of (show fmE o n k = 2 by rw [H1.out, if_pos (.inl (by omega))])
    go_enter Tryz.func7, Tryz.ntmps7
    go_wp2
    go_ret2
    exact ⟨_, _, rfl, Up.refl _, .inr ⟨by rw [HE.out, HX.out], rfl, HV.out⟩⟩
  by_cases z3 : (65536 : Int) < (k : Int)
  · have HX := Hid.of (show fmE o n k = 2 by rw [H1.out, if_pos (.inr (by omega))])
    go_enter Tryz.func7, Tryz.ntmps7
    go_wp2
    go_ret2
    exact ⟨_, _, rfl, Up.refl _, .inr ⟨by rw [HE.out, HX.out], rfl, HV.out⟩⟩
  have HX := Hid.of (show fmE o n k = 211 by rw [H1.out, if_neg (by omega)])
  have hb : ¬ isNt m := fun hb => z ⟨by omega, by omega, by omega, hb⟩
  replace hI := hI hb
  clear z hb hk
  go_enter Tryz.func7, Tryz.ntmps7
  go_wp2_with fail
  refine hI.mono ?_
  rintro e w1 ⟨rfl, u1⟩
  have HU1 := Hid.of u1
  clear hI u1
  dsimp only
  go_wp2
  go_ret2
  exact ⟨_, _, rfl, HU1.out, .inr ⟨by rw [HE.out, HX.out], rfl, HV.out⟩⟩

theorem own_sl {w : World} {B : Nat} {v : Value} {l : List UInt8} (h : OwnO w B v l) : Sl w v l := by
  rcases h with ⟨rfl, rfl⟩ | h
  · exact ⟨none, 0, rfl, Nat.le_refl _, .inl rfl⟩
  · exact h.sl
theorem own_ge {w : World} {B : Nat} {v : Value} {l : List UInt8} (h : OwnO w B v l) {g : Nat} (hg : v.ownBlock = some g) : B ≤ g := by
  rcases h with ⟨rfl, _⟩ | h
  · cases hg
  · exact (h.lt g hg).1
theorem own_up {w w' : World} {B : Nat} {v : Value} {l : List UInt8} (h : OwnO w B v l) (u : Up w w') : OwnO w' B v l := h.imp id (fun h => h.up u)
theorem own_base {w : World} {B B' : Nat} {v : Value} {l : List UInt8} (h : OwnO w B v l) (k : B' ≤ B) : OwnO w B' v l := by
  rcases h with h | ⟨g, off, cap, cur, fr, e, hB, r⟩
  · exact .inl h
  · exact .inr ⟨g, off, cap, cur, fr, e, Nat.le_trans k hB, r⟩
/-- both FormatAsk answer the same -/
theorem FAR.fix (o : Int) (hs : List (List UInt8)) (m : List UInt8) : ∃ (A : List UInt8) (E : Int), A.length ≤ 69000 ∧ ∀ w e w', FAR o hs m w e w' → ∃ v, e = .returned (.tuple #[v, .int .i64 E]) ∧ Up w w' ∧ OwnO w' w.heap.size v A := by
  rcases Classical.em (VA o hs m) with hv | hv
  · refine ⟨fmA o hs m, 0, fm_len hv, fun w e w' h => ?_⟩
    obtain ⟨v, er, rfl, u, h⟩ := h
    rcases h with ⟨rfl, _, h⟩ | ⟨_, _, h⟩
    · exact ⟨v, rfl, u, .inr h.n⟩
    · exact absurd hv h
  · refine ⟨[], fmE o hs.length m.length, by simp, fun w e w' h => ?_⟩
    obtain ⟨v, er, rfl, u, h⟩ := h
    rcases h with ⟨_, h, _⟩ | ⟨rfl, rfl, _⟩
    · exact absurd h hv
    · exact ⟨_, rfl, u, .inl ⟨rfl, rfl⟩⟩
/-- both ParseAsk answer the same -/
theorem PAR.fix (l : List UInt8) : ∃ (N : Int) (K : List (List UInt8)) (G : List UInt8) (E : Int), (∀ h ∈ K, h.length = 32) ∧ K.length ≤ 64 ∧ G.length ≤ 65536 ∧
    (∀ w e w', PAR l w e w' → ∃ pv hv, e = .returned (.tuple #[.int .i64 N, pv, hv, .int .i64 E]) ∧ Up w w' ∧ HO w' w.heap.size pv K ∧ OwnO w' w.heap.size hv G ∧ ∀ g, pv.ownBlock = some g → hv.ownBlock ≠ some g) ∧
    (∀ w e w', RAR l w e w' → ∃ pv hv, e = .returned (.tuple #[.int .i64 N, pv, hv, .int .i64 E]) ∧ Up w w' ∧ HOa w' w.heap.size pv K ∧ OwnO w' w.heap.size hv G) := by
  rcases Classical.em (Ask l) with ha | ha
  · have ha2 := ha
    obtain ⟨o, hs, m, v, e0⟩ := ha
    refine ⟨o, hs, m, 0, v.l, v.n, v.m.1, fun w e w' h => ?_, fun w e w' h => ?_⟩
    · obtain ⟨n, pv, hv, er, rfl, u, h⟩ := h
      rcases h with ⟨rfl, hs', m', v', e', h1, h2, h3⟩ | ⟨_, _, _, _, h⟩
      · obtain ⟨rfl, rfl, rfl⟩ := fm_inj v v' (e0.symm.trans e')
        exact ⟨pv, hv, rfl, u, h1, .inr h2.n, h3⟩
      · exact absurd ha2 h
    · obtain ⟨n, pv, hv, er, rfl, u, h⟩ := h
      rcases h with ⟨rfl, hs', m', v', e', h1, h2⟩ | ⟨_, _, _, _, h⟩
      · obtain ⟨rfl, rfl, rfl⟩ := fm_inj v v' (e0.symm.trans e')
        exact ⟨pv, hv, rfl, u, h1, .inr h2.n⟩
      · exact absurd ha2 h
  · refine ⟨0, [], [], paE l.length, (fun h hh => by cases hh), by simp, by simp, fun w e w' h => ?_, fun w e w' h => ?_⟩
    · obtain ⟨n, pv, hv, er, rfl, u, h⟩ := h
      rcases h with ⟨_, hs', m', v', e', _⟩ | ⟨rfl, rfl, rfl, rfl, _⟩
      · exact absurd ⟨n, hs', m', v', e'⟩ ha
      · exact ⟨_, _, rfl, u, World.ownsRow_nil _ _ _ _, .inl ⟨rfl, rfl⟩, fun g hg => by cases hg⟩
    · obtain ⟨n, pv, hv, er, rfl, u, h⟩ := h
      rcases h with ⟨_, hs', m', v', e', _⟩ | ⟨rfl, rfl, rfl, rfl, _⟩
      · exact absurd ⟨n, hs', m', v', e'⟩ ha
      · exact ⟨_, _, rfl, u, World.ownsRow_nil _ _ _ _, .inl ⟨rfl, rfl⟩⟩
/-- the book lies between two places -/
theorem BK.rng {P : Nat → Prop} {W : World} {bb lo : Nat} {es : List BE} {vL vM : Value} (h : BK P W bb es vL vM) (hp : ∀ j, P j → lo ≤ j) : BK (fun j => lo ≤ j ∧ j < W.heap.size) W bb es vL vM := by
  have hf : ∀ u, FreeOf P W bb vL vM u → FreeOf (fun j => lo ≤ j ∧ j < W.heap.size) W bb vL vM u := fun u hu g hg => ⟨⟨hp _ (hu g hg).1, (hu g hg).2.1⟩, (hu g hg).2⟩
  refine ⟨⟨h.rk.c0, h.rk.c1, h.rk.th, h.rk.bl, ⟨hp _ h.rk.bp, h.rk.bl⟩, h.rk.rl, h.rk.rm, fun g hg => ⟨⟨hp _ (h.rk.nl g hg).1, (World.ownsRow.lt h.rk.rl g hg).2⟩, (h.rk.nl g hg).2⟩, fun g hg => ⟨⟨hp _ (h.rk.nm g hg).1, (World.ownsRow.lt h.rk.rm g hg).2⟩, (h.rk.nm g hg).2⟩⟩, fun k hk => ?_⟩
  have e := h.en k hk
  exact ⟨e.l, e.m, e.n, hf _ e.fl, hf _ e.fm⟩
/-- a new book -/
theorem BK.new (W : World) : BK (fun j => W.heap.size ≤ j) (W.alloc (.cells #[.slice none 0 0, .slice none 0 0] 40)) W.heap.size [] (.slice none 0 0) (.slice none 0 0) := by
  refine ⟨⟨?_, ?_, there_new W [.slice none 0 0, .slice none 0 0] 40, by rw [World.alloc]; simp, Nat.le_refl _, World.ownsRow_nil _ _ _ _, World.ownsRow_nil _ _ _ _, (fun g hg => by cases hg), (fun g hg => by cases hg)⟩, fun k hk => by cases hk⟩
  · rw [World.cell?_alloc_at _ _ _ _ rfl]; rfl
  · rw [World.cell?_alloc_at _ _ _ _ rfl]; rfl
theorem HL.pre {w : World} {a : Option Addr} {t c : Nat} {hs ks : List (List UInt8)} (h : HL w (.slice a t c) (hs ++ ks)) : HL w (.slice a hs.length c) hs := by
  obtain ⟨a', c', e, hc, hd⟩ := h
  injection e with e1 e2 e3
  subst e1 e3
  rw [List.length_append] at hc
  refine ⟨_, _, rfl, by omega, fun j hj => ?_⟩
  have := hd j (by rw [List.length_append]; omega)
  rw [List.getElem_append_left hj] at this
  exact this
theorem Sl.pre8 {w : World} {a : Option Addr} {t c : Nat} {l k : List UInt8} (h : Sl w (.slice a t c) (l ++ k)) : Sl w (.slice a l.length c) l := by
  obtain ⟨a', c', e, hc, hd⟩ := h
  injection e with e1 e2 e3
  subst e1 e3
  rw [List.length_append] at hc
  refine ⟨_, _, rfl, by omega, ?_⟩
  rcases hd with h | ⟨b, off, rfl, hb, hcell⟩
  · exact .inl (List.append_eq_nil_iff.1 h).1
  · refine .inr ⟨b, off, rfl, hb, fun i hi => ?_⟩
    have := hcell i (by rw [List.length_append]; omega)
    rw [List.getElem_append_left hi] at this
    exact this
end Go.Proofs.YtaobnnlcfefodaaGreatDoor
namespace Go.Proofs.YtaobnnlcfefodaaGreatDoor
open Go.RowKit Go.Shelf TextNum
/-! ### a hash of one's own list is written over -/
def AtW (w : World) (b : Nat) (t : TypeId) (cs : List Value) : Prop := w.heap[b]? = some (.cells cs.toArray t)
theorem AtW.cell {w : World} {b : Nat} {t : TypeId} {cs : List Value} (h : AtW w b t cs) {i : Nat} {v : Value} (hi : cs[i]? = some v) : w.cell? ⟨b, i, none⟩ = some v := by
  rw [cell_of_row w b i cs.toArray _ (0, 0) h]
  simpa using hi
theorem AtW.thaw {w : World} {b : Nat} {t : TypeId} {cs : List Value} (h : AtW w b t cs) (i : Nat) : w.frozen? ⟨b, i, none⟩ = false := by
  have h' : w.heap[b]? = some (.cells cs.toArray t (0, 0)) := h
  simp [World.frozen?, h']
theorem AtW.set {w : World} {b : Nat} {t : TypeId} {cs : List Value} (h : AtW w b t cs) (i : Nat) (v : Value) : AtW (w.setCell ⟨b, i, none⟩ v) b t (cs.set i v) := by
  unfold AtW
  rw [setCell_eq_setRow w b i cs.toArray _ (0, 0) _ h, setRow_heap w b cs.toArray _ _ _ h]
  simp
theorem atw_sets {b : Nat} {t : TypeId} : ∀ (vs : List Value) (o : Nat) {w : World} {cs : List Value}, AtW w b t cs → o + vs.length ≤ cs.length → AtW (w.setCells b o vs) b t (cs.take o ++ vs ++ cs.drop (o + vs.length))
  | [], o, w, cs, h, _ => by simpa [World.setCells] using h
  | v :: r, o, w, cs, h, hl => by
    have := atw_sets r (o + 1) (h.set o v) (by simp at hl ⊢; omega)
    show AtW ((w.setCell ⟨b, o, none⟩ v).setCells b (o + 1) r) b t _
    have e : (cs.set o v).take (o + 1) ++ r ++ (cs.set o v).drop (o + 1 + r.length) = cs.take o ++ (v :: r) ++ cs.drop (o + (v :: r).length) := by
      simp only [List.length_cons] at hl ⊢
      rw [List.take_set, List.drop_set, if_pos (by omega), List.take_succ_eq_append_getElem (by omega)]
      rw [List.set_append, if_neg (by simp; omega)]
      simp [Nat.min_eq_left (by omega : o ≤ cs.length)]
      rw [show o + 1 + r.length = o + (r.length + 1) by omega]
    rw [e] at this
    exact this
theorem Fr.sets (b : Nat) : ∀ (vs : List Value) (o : Nat) (w : World), Fr (fun j => j = b) w (w.setCells b o vs)
  | [], _, w => Fr.refl _ w
  | v :: r, o, w => (Fr.set w ⟨b, o, none⟩ v).trans (Fr.sets b r (o + 1) _)
theorem hs_set : ∀ (hs : List (List UInt8)), (∀ h ∈ hs, h.length = 32) → ∀ (j : Nat), j < hs.length → ∀ q : List UInt8, (hs.set j q).flatMap cb = (hs.flatMap cb).take (j * 32) ++ cb q ++ (hs.flatMap cb).drop (j * 32 + 32)
  | [], _, j, h, _ => by cases h
  | g :: r, l, 0, _, q => by
    have hl : (cb g).length = 32 := by rw [cb_length]; exact l g List.mem_cons_self
    rw [List.set_cons_zero, List.flatMap_cons, List.flatMap_cons, Nat.zero_mul, List.take_zero, List.nil_append, Nat.zero_add, ← hl, List.drop_left]
  | g :: r, l, j + 1, h, q => by
    have hl : (cb g).length = 32 := by rw [cb_length]; exact l g List.mem_cons_self
    have := hs_set r (fun x hx => l x (List.mem_cons_of_mem _ hx)) j (by simpa using h) q
    rw [List.set_cons_succ, List.flatMap_cons, this, List.flatMap_cons, show (j + 1) * 32 = (cb g).length + j * 32 by rw [hl]; omega, List.take_length_add_append, Nat.add_assoc, List.drop_length_add_append]
    simp
theorem HO.put {w : World} {B n c : Nat} {a : Option Addr} {hs : List (List UInt8)} (h : HO w B (.slice a n c) hs) (l : ∀ h ∈ hs, h.length = 32) {j : Nat} (hj : j < hs.length) {q : List UInt8} (hq : q.length = 32) :
    ∃ g, a = some ⟨g, 0, none⟩ ∧ w.there g (j * 32) 32 ∧ HO (w.setCells g (j * 32) (cb q)) B (.slice a n c) (hs.set j q) := by
  have hfl := hs_len hs l
  rcases h.2 with ⟨_, h0⟩ | ⟨g, cap, cur, e1, hb, hg, hc, hm, hs2, ht⟩
  · omega
  · injection e1 with e1 e2 e3
    subst e1 e2 e3
    have hA : AtW w g 49 cur.toList := by unfold AtW; rw [hg]
    have hl : cur.toList.length = c * 32 := by simpa using hs2
    have hcq : (cb q).length = 32 := by rw [cb_length]; exact hq
    have hjl : j * 32 + (cb q).length ≤ cur.toList.length := by rw [hl, hcq]; omega
    have hA2 := atw_sets (cb q) (j * 32) hA hjl
    refine ⟨g, rfl, fun i hi => ?_, ?_, .inr ⟨g, c, _, by rw [List.length_set], hb, hA2, by rw [List.length_set]; exact hc, hm, ?_, ?_⟩⟩
    · have h1 := hA.cell (i := j * 32 + i) (List.getElem?_eq_getElem (by rw [hl]; omega))
      exact ⟨by rw [h1]; rfl, hA.thaw _⟩
    · rw [hs_len, List.length_set]
      intro x hx
      rcases List.mem_or_eq_of_mem_set hx with h | h
      · exact l x h
      · rw [h]; exact hq
    · simp only [List.size_toArray, List.length_append, List.length_take, List.length_drop, hl]
      omega
    · rw [hs_set hs l j hj q, ← ht, hcq, List.length_set, List.toList_toArray, List.take_append, List.take_append, List.take_take, List.take_take, List.drop_take]
      rw [Nat.min_eq_right (by omega : j * 32 ≤ hs.length * 32), Nat.min_eq_left (by omega : j * 32 ≤ hs.length * 32)]
      have l1 : (cur.toList.take (j * 32)).length = j * 32 := by rw [List.length_take]; omega
      rw [List.length_append, l1, hcq, List.take_of_length_le (l := cb q) (by rw [hcq]; omega)]
/-- the law's nine -/
def n9 : List UInt8 := 9 :: List.replicate 31 0
theorem n9_len : n9.length = 32 := rfl
set_option maxRecDepth 100000 in
theorem build_n9 (w : World) : (Instr.build 49 #[(0, .int .u8 9)]).run Tryz.prog w = .ok (.agg (cb n9).toArray) w := by kernel_rfl
def wr9 (K : List (List UInt8)) (i : Nat) : List (List UInt8) := List.replicate i n9 ++ K.drop i
theorem wr9_len {K : List (List UInt8)} {i : Nat} (h : i ≤ K.length) : (wr9 K i).length = K.length := by simp [wr9]; omega
theorem wr9_set {K : List (List UInt8)} {i : Nat} (h : i < K.length) : (wr9 K i).set i n9 = wr9 K (i + 1) := by
  unfold wr9
  rw [List.drop_eq_getElem_cons h, List.set_append, if_neg (by simp), List.length_replicate, Nat.sub_self, List.set_cons_zero, List.replicate_succ', List.append_assoc]
  rfl
theorem wr9_all {K : List (List UInt8)} {n : Nat} (h : K.length = n) : wr9 K n = List.replicate n n9 := by
  unfold wr9
  rw [← h, List.drop_length, List.append_nil]
theorem wr9_32 {K : List (List UInt8)} (l : ∀ h ∈ K, h.length = 32) (i : Nat) : ∀ h ∈ wr9 K i, h.length = 32 := fun h hh => by
  rcases List.mem_append.1 hh with h1 | h1
  · rw [(List.mem_replicate.1 h1).2]; rfl
  · exact l h (List.mem_of_mem_drop h1)
theorem rep9_32 (n : Nat) : ∀ h ∈ List.replicate n n9, h.length = 32 := fun h hh => by rw [(List.mem_replicate.1 hh).2]; rfl
/-- a hash is appended; the old list reads as it did -/
theorem wpList_appH9 {ops : Array Oper} {rest : List Oper} {o : Oper} {a : Act} {W : World} {Q : Exit → Act → World → Prop} (hgd : o.guard = none) (s x : Operand)
    (ho : o.op = .call { callee := .builtin .append, args := #[s, x], argTypes := #[26, 26] }) (B : Nat) (v : Value) (hs : List (List UInt8)) (n : Nat) (hn : hs.length = n) (y : List UInt8) (hy : y.length = 32) (hv : a.eval s = v) (hown : HO W B v hs)
    (c : Nat) (hx : a.eval x = .slice (some ⟨W.heap.size, 0, none⟩) 1 c) (hl : n ≤ 1048576) (hB : B ≤ W.heap.size)
    (h : ∀ v' w', HO w' B v' (hs ++ [y]) → HO w' B v hs → W.grownBy w' v.ownBlock → wpList Tryz.prog ops Q rest (a.put o.dst v') w') : wpList Tryz.prog ops Q (o :: rest) a (W.alloc (.cells (cb y).toArray 49)) := by
  obtain ⟨i0, hi, hz0, hz1, hz2⟩ := info_parts infoHash
  have hu := (Up.refl W).alloc (.cells (cb y).toArray 49)
  have hcl : (cb y).length = 32 := by rw [cb_length]; exact hy
  subst hn
  obtain ⟨v', w', hr, ho', hg, hold, _⟩ := app_row (w := W.alloc (.cells (cb y).toArray 49)) B 26 o.type 49 i0 (.agg (cb zH).toArray) 32 32 Tryz.underlying26 hi hz0 hz1 hz2 rfl (by decide) v hs.length (hs.flatMap cb) (hown.up hu) ⟨W.heap.size, 0, none⟩ 1 c (cb y) (by rw [hcl]) (fun j u hj => by
    rw [add_plain, World.cell?_alloc_at _ _ _ _ rfl, Nat.zero_add]
    simpa using hj) (fun u hu2 => cb_one y u hu2) (by unfold maxLen; omega) (by omega) (Nat.le_trans hB hu.size)
  refine wpList_plain hgd fun K2 hK2 => ?_
  unfold Oper.wp execOp
  simp only [ho, resolve, invoke, builtin, Sem.run_bind, Sem.run_pure, Result.andThen_ok, List.map_toArray, List.map_cons, List.map_nil, hv, hx, hr]
  refine hK2 _ _ (h v' w' ?_ hold (grown_trans ⟨hu.os, hu.tape, hu.output, hu.size, fun k hk _ => hu.block k hk⟩ hg))
  unfold HO
  rw [flatB_snoc, List.length_append]
  exact ho'
theorem wpList_val8g {ops : Array Oper} {Q : Exit → Act → World → Prop} {rest : List Oper} {o : Oper} {a : Act} {w : World} (v : Value) (hw : Region.wanted o (yielded ops a.tmps) = true) (hy : (execOp a.eval o).run Tryz.prog w = .ok (.value v) w)
    (h : wpList Tryz.prog ops Q rest (a.put o.dst v) w) : wpList Tryz.prog ops Q (o :: rest) a w :=
  wpList_step fun K hK => by
    rw [if_pos hw]
    unfold Oper.wp
    rw [hy]
    exact hK _ _ h
theorem wpList_load_g {ops : Array Oper} {rest : List Oper} {op : Oper} {a : Act} {w : World} {Q : Exit → Act → World → Prop} (hw : Region.wanted op (yielded ops a.tmps) = true) (ty : TypeId) (x : Operand) (ho : op.op = .load ty x)
    (b o : Nat) (hx : a.eval x = .pointer (some ⟨b, o, none⟩)) (cs : List Value) (d : TypeDesc) (hc : w.rangeAt b o cs)
    (hu : Tryz.prog.underlying ty = some d) (hd : d.isRow = true) (hi : (Tryz.prog.info? ty).map (·.size) = some cs.length)
    (h : wpList Tryz.prog ops Q rest (a.put op.dst (.agg cs.toArray)) w) : wpList Tryz.prog ops Q (op :: rest) a w :=
  wpList_step fun K hK => by
    rw [if_pos hw]
    exact wp_load_mid ty x ho b o hx cs d hc hu hd hi (hK _ _ h)
end Go.Proofs.YtaobnnlcfefodaaGreatDoor
namespace Go.Proofs.YtaobnnlcfefodaaGreatDoor
open Go.RowKit Go.Shelf TextNum
set_option maxRecDepth 100000 in
set_option maxHeartbeats 16000000 in
theorem WitnessAsks_walk (w : World) (o : Int) (pv hv av : Value) (hs : List (List UInt8)) (m l : List UInt8) (hP : HL w pv hs) (hM : Sl w hv m) (hA : Sl w av l) (hT : TabL w) (hW : Go.Lib.WhiteTab 6 w) (hG : GN w) (hB : BTab w) (hln : hs.length ≤ 1048576) (hlm : m.length ≤ 1048576) (hll : l.length ≤ 1048576) :
    Calls Tryz.prog 3 #[.agg #[.int .i64 o, pv, hv, av]] w fun e w' => e = .returned (.bool true) ∧ Up w w' := by
  obtain ⟨A, E, hAl, hFX⟩ := FAR.fix o hs m
  obtain ⟨N, K, G, E2, hK32, hK64, hGl, hPX, hRX⟩ := PAR.fix l
  have H32 := Hid.of (hl_32 hP)
  have HFX := Hid.of hFX
  have HPX := Hid.of hPX
  have HRX := Hid.of hRX
  have HK32 := Hid.of hK32
  have HP := Hid.of hP
  have HM := Hid.of hM
  have HA := Hid.of hA
  have HT := Hid.of hT
  have HW := Hid.of hW
  have HG := Hid.of hG
  have HB := Hid.of hB
  obtain ⟨pa, pc, rfl, hpc, _⟩ := id hP
  obtain ⟨ha, hc, rfl, hhc, _⟩ := id hM
  obtain ⟨aa, ac, rfl, hac, _⟩ := id hA
  obtain ⟨n, hn⟩ : ∃ n, hs.length = n := ⟨_, rfl⟩
  obtain ⟨k, hk⟩ : ∃ n, m.length = n := ⟨_, rfl⟩
  obtain ⟨j, hj⟩ : ∃ n, l.length = n := ⟨_, rfl⟩
  have HN := Hid.of (And.intro hn (And.intro hk hj))
  rw [hn] at hpc HP hln ⊢
  rw [hk] at hhc HM hlm ⊢
  rw [hj] at hac HA hll ⊢
  clear hFX hPX hRX hK32 hP hM hA hT hW hG hB hn hk hj
  go_enter Tryz.func3, Tryz.ntmps3
  go_wp2_with fail
  change Calls _ _ _ (w.alloc (Obj.cells #[.int .i64 o, .slice pa n pc, .slice ha k hc, .slice aa j ac] 25)) _
  have HU1 := Hid.of ((Up.refl w).alloc (Obj.cells #[.int .i64 o, .slice pa n pc, .slice ha k hc, .slice aa j ac] 25))
  have HQ1 := Hid.of (show (w.alloc (Obj.cells #[.int .i64 o, .slice pa n pc, .slice ha k hc, .slice aa j ac] 25)).rangeAt w.heap.size 0 [.int .i64 o, .slice pa n pc, .slice ha k hc, .slice aa j ac] from fun i u hu => by
    rw [World.cell?_alloc_at _ _ _ _ rfl, Nat.zero_add]
    simpa using hu)
  generalize w.alloc (Obj.cells #[.int .i64 o, .slice pa n pc, .slice ha k hc, .slice aa j ac] 25) = W1 at *
  generalize hxb : w.heap.size = xb at *
  refine (desked_walk (.slice pa n pc) hs W1 (HP.out.up HU1.out) (by rw [HN.out.1]; omega)).mono ?_
  rintro e W2 ⟨u, rfl, hO2, q2⟩
  have HU2 := Hid.of (HU1.out.trans q2)
  have HQ2 := Hid.of (range_upW HQ1.out q2)
  have HTb := Hid.of (hO2.hl (fun h hh => by
    rcases List.mem_append.1 hh with h1 | h1
    · exact H32.out h h1
    · exact mkH_32 70 h h1))
  obtain ⟨ta, tc, htv, htc⟩ := row_sh hO2
  have hnl : (hs ++ mkH 70).length = n + 70 := by rw [List.length_append, mkH_len, HN.out.1]
  rw [hnl] at htv htc
  subst htv
  clear hO2 q2 hnl HQ1
  dsimp only
  have q1 : W2.cell? ⟨xb, 1, none⟩ = some (.slice pa n pc) := HQ2.out 1 _ rfl
  have q2 : W2.cell? ⟨xb, 2, none⟩ = some (.slice ha k hc) := HQ2.out 2 _ rfl
  have htz : (n : Int) ≤ (tc : Int) := by omega
  go_wp2_with fail
  clear q1 q2
  refine (lent_walk7 (.slice ha k hc) m W2 (HM.out.up HU2.out) (by rw [HN.out.2.1]; omega)).mono ?_
  rintro e W3 ⟨bD, rfl, hO3, q3⟩
  rw [HN.out.2.1] at hO3 ⊢
  have HU3 := Hid.of (HU2.out.trans q3)
  have HQ3 := Hid.of (range_upW HQ2.out q3)
  have HD3 := Hid.of hO3.sl
  have HT3 := Hid.of (HTb.out.up q3)
  clear hO3 q3 HQ2 HTb
  dsimp only
  have q0 : W3.cell? ⟨xb, 0, none⟩ = some (.int .i64 o) := HQ3.out 0 _ rfl
  have q1 : W3.cell? ⟨xb, 1, none⟩ = some (.slice pa n pc) := HQ3.out 1 _ rfl
  have q2 : W3.cell? ⟨xb, 2, none⟩ = some (.slice ha k hc) := HQ3.out 2 _ rfl
  have hkz : (k : Int) ≤ ((k + 200 : Nat) : Int) := by omega
  go_wp2_with fail
  clear q0 q1 q2
  refine (RFormatAsk_walk W3 o (.slice pa n pc) (.slice ha k hc) hs m (HP.out.up HU3.out) (HM.out.up HU3.out) (fun k hk => HU3.out.cell (HB.out k hk))).mono ?_
  rintro e W4 hR4
  obtain ⟨v7, rfl, q4, hO4⟩ := HFX.out _ _ _ hR4
  obtain ⟨a7, c7, rfl, _⟩ := own_shape hO4
  have HU4 := Hid.of (HU3.out.trans q4)
  have HQ4 := Hid.of (range_upW HQ3.out q4)
  have HD4 := Hid.of (HD3.out.up q4)
  have HT4 := Hid.of (HT3.out.up q4)
  have HS4 := Hid.of (own_sl hO4)
  clear hR4 q4 hO4 HQ3 HD3 HT3
  dsimp only
  have q0 : W4.cell? ⟨xb, 0, none⟩ = some (.int .i64 o) := HQ4.out 0 _ rfl
  go_wp2_with fail
  clear q0
  have HPT4 := Hid.of (show HL W4 (.slice ta n tc) hs by have h := HL.pre HT4.out; rw [HN.out.1] at h; exact h)
  have HHD4 := Hid.of (show Sl W4 (.slice (some ⟨bD, 0, none⟩) k (k + 200)) m by
    have h0 := HD4.out
    unfold lt7 at h0
    have h := Sl.pre8 h0
    rw [HN.out.2.1] at h
    exact h)
  obtain ⟨an, han⟩ : ∃ t, A.length = t := ⟨_, rfl⟩
  obtain ⟨sA, hsA⟩ : ∃ t, (⟨A.toArray⟩ : ByteArray) = t := ⟨_, rfl⟩
  have HAN := Hid.of (And.intro han (show vs A = .string sA from congrArg Value.string hsA))
  rw [han] at HS4 hAl ⊢
  clear han hsA
  refine (FormatAsk_far W4 o _ _ hs m HPT4.out HHD4.out (HT.out.up HU4.out) (WhiteTab_up HW.out HU4.out) (HG.out.up HU4.out)).mono ?_
  rintro e W5 hR5
  obtain ⟨v9, rfl, q5, hO5⟩ := HFX.out _ _ _ hR5
  obtain ⟨a9, c9, rfl, _⟩ := own_shape hO5
  rw [HAN.out.1] at hO5 ⊢
  have HU45 := Hid.of q5
  have HO5 := Hid.of hO5
  clear hR5 q5 hO5
  dsimp only
  have q1 : W5.cell? ⟨xb, 1, none⟩ = some (.slice pa n pc) := HU45.out.cell (HQ4.out 1 _ rfl)
  have q2 : W5.cell? ⟨xb, 2, none⟩ = some (.slice ha k hc) := HU45.out.cell (HQ4.out 2 _ rfl)
  have cv9 := conv_sl (own_sl HO5.out)
  have cv7 := conv_sl (HS4.out.up HU45.out)
  rw [HAN.out.2] at cv7 cv9
  go_wp2_with (go_at_call 8; refine (wnum_walk _ _).mono ?_; rintro _ w9 ⟨rfl, h9⟩; obtain rfl := h9.symm; clear h9; dsimp only)
  clear cv7 cv9 q1
  refine (proofs_walk (.slice ta n tc) (.slice pa n pc) hs W5 (HPT4.out.up HU45.out) (HP.out.up (HU4.out.trans HU45.out)) (by rw [HN.out.1]; omega)).mono ?_
  rintro e W6 ⟨rfl, q6⟩
  have HU46 := Hid.of (HU45.out.trans q6)
  have HO6 := Hid.of (own_up HO5.out q6)
  replace q2 := q6.cell q2
  clear q6 HO5 HU45
  dsimp only
  go_wp2_with fail
  clear q2
  refine (whole_walk (.slice (some ⟨bD, 0, none⟩) (k + 200) (k + 200)) (.slice ha k hc) m W6 (HD4.out.up HU46.out) (HM.out.up (HU4.out.trans HU46.out)) (by rw [HN.out.2.1]; omega)).mono ?_
  rintro e W8 ⟨rfl, q8⟩
  have HU48 := Hid.of (HU46.out.trans q8)
  have HO8 := Hid.of (own_up HO6.out q8)
  clear q8 HO6 HU46
  dsimp only
  go_wp2_with fail
  change Calls _ _ _ (W8.alloc (.cells #[.slice none 0 0, .slice none 0 0] 40)) _
  have HBK9 := Hid.of (BK.new W8)
  have HU9 := Hid.of ((Up.refl W8).alloc (.cells #[.slice none 0 0, .slice none 0 0] 40))
  generalize W8.alloc (.cells #[.slice none 0 0, .slice none 0 0] 40) = W9 at *
  generalize hbb : W8.heap.size = bb at *
  have HSB := Hid.of (show W4.heap.size ≤ bb from by rw [← hbb]; exact HU48.out.size)
  have HOL9 := Hid.of (fun g (hg : (Value.slice a9 an c9).ownBlock = some g) => show W4.heap.size ≤ g ∧ g < bb from ⟨own_ge HO8.out hg, by rw [← hbb]; exact own_lt HO8.out hg⟩)
  refine (hold_walk (fun j => bb ≤ j) W9 bb [] _ _ (.slice a9 an c9) A HBK9.out (own_base (own_up HO8.out HU9.out) (Nat.zero_le _)) (fun g hg h => by have := HOL9.out g hg; omega) (by rw [HAN.out.1]; omega) (by simp)).mono ?_
  rintro e W10 ⟨rfl, ⟨x2, vL, vM, hb10⟩, f10⟩
  rw [HAN.out.1] at hb10
  have HU49 := Hid.of (HU48.out.trans HU9.out)
  have HU410 := Hid.of (f10.up HU49.out (fun j hj h => h.elim (fun h => by have := HSB.out; omega) (fun h => by have := HOL9.out j h; omega)))
  have HBK10 := Hid.of (show BK (fun j => W4.heap.size ≤ j ∧ j < W10.heap.size) W10 bb [⟨.slice a9 an c9, x2, an⟩] vL vM from hb10.rng (fun j h => by
    have h1 := HSB.out
    have h2 := HU49.out.size
    rcases h with h | h | h
    · omega
    · exact (HOL9.out j h).1
    · omega))
  clear hb10 f10 HU49 HO8 HBK9 HU9 HU48 HOL9
  dsimp only
  have q0 : W10.cell? ⟨xb, 0, none⟩ = some (.int .i64 o) := HU410.out.cell (HQ4.out 0 _ rfl)
  go_wp2_with fail
  clear q0
  refine (FormatAsk_far W10 o _ _ hs m (HPT4.out.up HU410.out) (HHD4.out.up HU410.out) (HT.out.up (HU4.out.trans HU410.out)) (WhiteTab_up HW.out (HU4.out.trans HU410.out)) (HG.out.up (HU4.out.trans HU410.out))).mono ?_
  rintro e W11 hR11
  obtain ⟨v9, rfl, q11, hO11⟩ := HFX.out _ _ _ hR11
  obtain ⟨b9, d9, rfl, _⟩ := own_shape hO11
  rw [HAN.out.1] at hO11 ⊢
  have HU411 := Hid.of (HU410.out.trans q11)
  have HO11 := Hid.of hO11
  have HBK11 := Hid.of (HBK10.out.fr (Fr.of_up q11 : Fr (fun _ => False) _ _) (fun _ _ h => h))
  have HS1011 := Hid.of q11.size
  clear hR11 q11 hO11 HBK10
  dsimp only
  have cv9 := conv_sl (own_sl HO11.out)
  have cv7 := conv_sl (HS4.out.up HU411.out)
  rw [HAN.out.2] at cv7 cv9
  go_wp2_with fail
  clear cv7 cv9
  refine (kept_walk _ W11 bb _ vL vM (by simp) HBK11.out).mono ?_
  rintro e W12 ⟨rfl, rfl⟩
  dsimp only
  go_wp2_with fail
  have HOL11 := Hid.of (fun g (hg : (Value.slice b9 an d9).ownBlock = some g) => show W10.heap.size ≤ g ∧ g < W12.heap.size from ⟨own_ge HO11.out hg, own_lt HO11.out hg⟩)
  refine (hold_walk _ W12 bb _ vL vM (.slice b9 an d9) A HBK11.out (own_base HO11.out (Nat.zero_le _)) (fun g hg h => by have h1 := (HOL11.out g hg).1; have h2 := h.2; omega) (by rw [HAN.out.1]; omega) (by simp)).mono ?_
  rintro e W13 ⟨rfl, ⟨y2, vL2, vM2, hb13⟩, f13⟩
  rw [HAN.out.1] at hb13
  have HU413 := Hid.of (f13.up HU411.out (fun j hj h => h.elim (fun h => by have h1 := h.1; omega) (fun h => by have h1 := (HOL11.out j h).1; have h2 := HU410.out.size; omega)))
  have HBK13 := Hid.of (show BK (fun j => W4.heap.size ≤ j ∧ j < W13.heap.size) W13 bb ([⟨.slice a9 an c9, x2, an⟩] ++ [⟨.slice b9 an d9, y2, an⟩]) vL2 vM2 from hb13.rng (fun j h => by
    have h2 := HU410.out.size
    have h3 := HU411.out.size
    rcases h with h | h | h
    · exact h.1
    · have := (HOL11.out j h).1; omega
    · omega))
  clear hb13 f13 HO11 HOL11 HBK11 HU411 HS1011 HU410
  dsimp only
  have q1 : W13.cell? ⟨xb, 1, none⟩ = some (.slice pa n pc) := HU413.out.cell (HQ4.out 1 _ rfl)
  go_wp2_with fail
  clear q1
  refine (spared_walk (.slice ta (n + 70) tc) hs n HN.out.1 W13 (HT4.out.up HU413.out) (by omega)).mono ?_
  rintro e W14 ⟨rfl, q14⟩
  have HU414 := Hid.of (HU413.out.trans q14)
  have HS1314 := Hid.of q14.size
  have HBK14 := Hid.of (HBK13.out.fr (Fr.of_up q14 : Fr (fun _ => False) _ _) (fun _ _ h => h))
  clear q14 HU413 HBK13
  dsimp only
  have q3 : W14.cell? ⟨xb, 3, none⟩ = some (.slice aa j ac) := HU414.out.cell (HQ4.out 3 _ rfl)
  go_wp2_with fail
  clear q3
  refine (lent_walk7 (.slice aa j ac) l W14 (HA.out.up (HU4.out.trans HU414.out)) (by rw [HN.out.2.2]; omega)).mono ?_
  rintro e W15 ⟨bR, rfl, hO15, q15⟩
  rw [HN.out.2.2] at hO15 ⊢
  have HU415 := Hid.of (HU414.out.trans q15)
  have HBK15 := Hid.of (HBK14.out.fr (Fr.of_up q15 : Fr (fun _ => False) _ _) (fun _ _ h => h))
  have HR15 := Hid.of hO15.sl
  have HSR := Hid.of (show W13.heap.size ≤ bR ∧ bR < W15.heap.size ∧ W13.heap.size ≤ W15.heap.size from ⟨Nat.le_trans HS1314.out (hO15.lt bR rfl).1, (hO15.lt bR rfl).2, Nat.le_trans HS1314.out q15.size⟩)
  clear hO15 q15 HU414 HBK14 HS1314
  dsimp only
  have q3 : W15.cell? ⟨xb, 3, none⟩ = some (.slice aa j ac) := HU415.out.cell (HQ4.out 3 _ rfl)
  have hjz : (j : Int) ≤ ((j + 200 : Nat) : Int) := by omega
  go_wp2_with fail
  clear q3
  refine (RParseAsk_walk (.slice aa j ac) l W15 (HA.out.up (HU4.out.trans HU415.out)) (fun k hk => (HU4.out.trans HU415.out).cell (HB.out k hk))).mono ?_
  rintro e W16 hR16
  obtain ⟨v15, v16, rfl, q16, hl16, hh16⟩ := HRX.out _ _ _ hR16
  obtain ⟨a15, c15, rfl, _⟩ := row_sh hl16
  obtain ⟨a16, c16, rfl, _⟩ := own_shape hh16
  have HU416 := Hid.of (HU415.out.trans q16)
  have HBK16 := Hid.of (HBK15.out.fr (Fr.of_up q16 : Fr (fun _ => False) _ _) (fun _ _ h => h))
  have HR16 := Hid.of (HR15.out.up q16)
  have HL16 := Hid.of (hl16.hl HK32.out)
  have HH16 := Hid.of (own_sl hh16)
  have HLR := Hid.of (show (∀ g, (Value.slice a15 K.length c15).ownBlock = some g → W15.heap.size ≤ g ∧ g < W16.heap.size) ∧ (∀ g, (Value.slice a16 G.length c16).ownBlock = some g → W15.heap.size ≤ g ∧ g < W16.heap.size) ∧ W15.heap.size ≤ W16.heap.size from ⟨fun g hg => World.ownsRow.lt hl16 g hg, fun g hg => ⟨own_ge hh16 hg, own_lt hh16 hg⟩, q16.size⟩)
  clear hR16 q16 hl16 hh16 HR15 HBK15 HU415
  obtain ⟨kn, hkn⟩ : ∃ t, K.length = t := ⟨_, rfl⟩
  obtain ⟨gn, hgn⟩ : ∃ t, G.length = t := ⟨_, rfl⟩
  obtain ⟨sG, hsG⟩ : ∃ t, (⟨G.toArray⟩ : ByteArray) = t := ⟨_, rfl⟩
  have HKN := Hid.of (And.intro hkn (And.intro hgn (show vs G = .string sG from congrArg Value.string hsG)))
  rw [hkn] at HL16 HLR hK64 ⊢
  rw [hgn] at HH16 HLR hGl ⊢
  clear hkn hgn hsG
  dsimp only
  go_wp2_with fail
  have HAS16 := Hid.of (show Sl W16 (.slice (some ⟨bR, 0, none⟩) j (j + 200)) l by
    have h0 := HR16.out
    unfold lt7 at h0
    have h := Sl.pre8 h0
    rw [HN.out.2.2] at h
    exact h)
  refine (ParseAsk_walk (.slice (some ⟨bR, 0, none⟩) j (j + 200)) l W16 HAS16.out (HT.out.up (HU4.out.trans HU416.out)) (WhiteTab_up HW.out (HU4.out.trans HU416.out)) (HG.out.up (HU4.out.trans HU416.out))).mono ?_
  rintro e W17 hR17
  obtain ⟨v18, v19, rfl, q17, hk17, hg17, hd17⟩ := HPX.out _ _ _ hR17
  obtain ⟨a18, c18, rfl, _⟩ := row_sh hk17
  obtain ⟨a19, c19, rfl, _⟩ := own_shape hg17
  rw [HKN.out.1] at hk17 hd17 ⊢
  rw [HKN.out.2.1] at hg17 hd17 ⊢
  have HU417 := Hid.of (HU416.out.trans q17)
  have HU1617 := Hid.of q17
  have HK17 := Hid.of hk17
  have HG17 := Hid.of hg17
  have HD17 := Hid.of hd17
  clear hR17 q17 hk17 hg17 hd17
  dsimp only
  have q3 : W17.cell? ⟨xb, 3, none⟩ = some (.slice aa j ac) := HU417.out.cell (HQ4.out 3 _ rfl)
  go_wp2_with fail
  refine (proofs_walk (.slice a18 kn c18) (.slice a15 kn c15) K W17 (HK17.out.hl HK32.out) (HL16.out.up HU1617.out) (by rw [HKN.out.1]; omega)).mono ?_
  rintro e W18 ⟨rfl, q18⟩
  have HU418 := Hid.of (HU417.out.trans q18)
  have HU1618 := Hid.of (HU1617.out.trans q18)
  have HK18 := Hid.of (HK17.out.up q18)
  have HG18 := Hid.of (own_up HG17.out q18)
  have HSK := Hid.of (show (∀ g, (Value.slice a18 kn c18).ownBlock = some g → W16.heap.size ≤ g ∧ g < W18.heap.size) ∧ (∀ g, (Value.slice a19 gn c19).ownBlock = some g → W16.heap.size ≤ g ∧ g < W18.heap.size) from ⟨fun g hg => ⟨(World.ownsRow.lt HK17.out g hg).1, Nat.lt_of_lt_of_le (World.ownsRow.lt HK17.out g hg).2 q18.size⟩, fun g hg => ⟨own_ge HG17.out hg, Nat.lt_of_lt_of_le (own_lt HG17.out hg) q18.size⟩⟩)
  replace q3 := q18.cell q3
  clear q18 HU417 HU1617 HK17 HG17
  dsimp only
  have cg := conv_sl (own_sl HG18.out)
  have ch := conv_sl (HH16.out.up HU1618.out)
  rw [HKN.out.2.2] at cg ch
  go_wp2_with (go_at_call 8; refine (wnum_walk _ _).mono ?_; rintro _ w9 ⟨rfl, h9⟩; obtain rfl := h9.symm; clear h9; dsimp only)
  clear cg ch q3
  refine (whole_walk (.slice (some ⟨bR, 0, none⟩) (j + 200) (j + 200)) (.slice aa j ac) l W18 (HR16.out.up HU1618.out) (HA.out.up (HU4.out.trans HU418.out)) (by rw [HN.out.2.2]; omega)).mono ?_
  rintro e W19 ⟨rfl, q19⟩
  have HU419 := Hid.of (HU418.out.trans q19)
  have HU1619 := Hid.of (HU1618.out.trans q19)
  have HK19 := Hid.of (HK18.out.up q19)
  have HG19 := Hid.of (own_up HG18.out q19)
  have HSZ := Hid.of q19.size
  clear q19 HU418 HU1618 HK18 HG18
  dsimp only
  go_wp2_with fail
  have HBK19 := Hid.of (HBK16.out.fr (Fr.of_up HU1619.out : Fr (fun _ => False) _ _) (fun _ _ h => h))
  have HG0 := Hid.of (fun g (hg : (Value.slice a19 gn c19).ownBlock = some g) (h : W4.heap.size ≤ g ∧ g < W13.heap.size) => show False by
    have h1 := (HSK.out.2 g hg).1
    have h2 := HLR.out.2.2
    have h3 := HSR.out.2.2
    omega)
  refine (hold_walk _ W19 bb _ vL2 vM2 (.slice a19 gn c19) G HBK19.out (own_base HG19.out (Nat.zero_le _)) (fun g hg h => HG0.out g hg h) (by rw [HKN.out.2.1]; omega) (by simp)).mono ?_
  rintro e W20 ⟨rfl, ⟨z2, vL3, vM3, hb20⟩, f20⟩
  rw [HKN.out.2.1] at hb20
  obtain ⟨X, HX⟩ : ∃ X : Nat → Prop, Hid (X = fun j => (W4.heap.size ≤ j ∧ j < W13.heap.size) ∨ (Value.slice a19 gn c19).ownBlock = some j) := ⟨_, Hid.of rfl⟩
  rw [← HX.out] at f20
  obtain ⟨Y, HY⟩ : ∃ Y : Nat → Prop, Hid (Y = fun j => (W4.heap.size ≤ j ∧ j < W13.heap.size) ∨ (Value.slice a19 gn c19).ownBlock = some j ∨ W19.heap.size ≤ j) := ⟨_, Hid.of rfl⟩
  rw [← HY.out] at hb20
  have HX1 := Hid.of (show (∀ j, W13.heap.size ≤ j → j < W16.heap.size → ¬ X j) ∧ (∀ j, j < W4.heap.size → ¬ X j) ∧ (∀ j, (Value.slice a18 kn c18).ownBlock = some j → ¬ X j ∧ ¬ Y j) from by
    have h2 := HLR.out.2.2
    have h3 := HSR.out.2.2
    have h4 := HU416.out.size
    refine ⟨fun j h1 h2 h => ?_, fun j h1 h => ?_, fun j hj => ⟨fun h => ?_, fun h => ?_⟩⟩
    · rw [HX.out] at h
      rcases h with h | h
      · omega
      · have := (HSK.out.2 j h).1; omega
    · rw [HX.out] at h
      rcases h with h | h
      · omega
      · have := (HSK.out.2 j h).1; omega
    · rw [HX.out] at h
      have h5 := (HSK.out.1 j hj).1
      rcases h with h | h
      · omega
      · exact HD17.out j hj h
    · rw [HY.out] at h
      have h5 := HSK.out.1 j hj
      have h6 := HSZ.out
      rcases h with h | h | h
      · omega
      · exact HD17.out j hj h
      · omega)
  have HU420 := Hid.of (f20.up HU419.out HX1.out.2.1)
  have HK20 := Hid.of (show HO W20 W16.heap.size (.slice a18 kn c18) K from row_fr HK19.out f20 (fun g hg => (HX1.out.2.2 g hg).1))
  have HR20 := Hid.of ((HR16.out.up HU1619.out).fr f20 (fun g hg => by
    obtain rfl : bR = g := Option.some.inj hg
    have h2 := HLR.out.2.2
    have h3 := HSR.out
    exact HX1.out.1 bR (by omega) (by omega)))
  have HL20 := Hid.of ((HL16.out.up HU1619.out).fr f20 (fun g hg => HX1.out.1 g (by have := HLR.out.1 g hg; have := HSR.out; omega) (HLR.out.1 g hg).2))
  have HH20 := Hid.of ((HH16.out.up HU1619.out).fr f20 (fun g hg => HX1.out.1 g (by have := HLR.out.2.1 g hg; have := HSR.out; omega) (HLR.out.2.1 g hg).2))
  have HBK20 := Hid.of hb20
  have HKB := Hid.of (show (∀ g, (Value.slice a18 kn c18).ownBlock = some g → W16.heap.size ≤ g ∧ ¬ Y g) ∧ W4.heap.size ≤ W16.heap.size ∧ W16.heap.size ≤ W20.heap.size ∧ bR < W16.heap.size ∧ W15.heap.size ≤ W16.heap.size from ⟨fun g hg => ⟨(HSK.out.1 g hg).1, (HX1.out.2.2 g hg).2⟩, HU416.out.size, Nat.le_trans HU1619.out.size f20.size, by have h2 := HLR.out.2.2; have h3 := HSR.out; omega, HLR.out.2.2⟩)
  clear hb20 f20 HG0 HBK19 HU419 HU1619 HK19 HG19 HX HX1 HL16 HH16 HR16 HBK16 HU416 HSK HSR HSZ HD17
  dsimp only
  have hknz : (kn : Int) ≤ 64 := by omega
  go_wp2
  go_loopw [21] (fun v21 wr => ∃ i : Nat, v21 = .int .i64 (i : Int) ∧ i ≤ kn ∧ Hid (HO wr W16.heap.size (.slice a18 kn c18) (wr9 K i) ∧ Fr (fun j => (Value.slice a18 kn c18).ownBlock = some j) W20 wr)) (fun v21 _ => kn - (intOf v21).toNat)
  case atStart => exact ⟨0, rfl, by omega, by simpa [wr9] using HK20.out, Fr.refl _ W20⟩
  case round =>
    obtain ⟨i, rfl, hi, hI⟩ := hrel
    by_cases hlt : i < kn
    · have hlt' : (i : Int) < (kn : Int) := by omega
      have hkc : kn ≤ c18 := by
        obtain ⟨_, _, e, he⟩ := row_sh (show wr.ownsRow W16.heap.size 49 32 (.slice a18 kn c18) kn ((wr9 K i).flatMap cb) by have h := hI.out.1; unfold HO at h; rw [wr9_len (by rw [HKN.out.1]; omega), HKN.out.1] at h; exact h)
        injection e with _ _ e3
        omega
      have hkcz : (kn : Int) ≤ (c18 : Int) := by omega
      obtain ⟨g, rfl, hth, hput⟩ := HO.put hI.out.1 (wr9_32 HK32.out i) (j := i) (by rw [wr9_len (by rw [HKN.out.1]; omega), HKN.out.1]; exact hlt) n9_len
      rw [wr9_set (by rw [HKN.out.1]; exact hlt)] at hput
      have HNX := Hid.of (And.intro hput (hI.out.2.trans ((Fr.sets g (cb n9) (i * 32) wr).mono (fun j _ e => by rw [e]; rfl))))
      have HTH := Hid.of hth
      have hbn := build_n9 wr
      have hcl : (cb n9).length = 32 := by rw [cb_length]; rfl
      generalize n9 = x9 at *
      clear hput hI hth
      go_wp2_with (with_reducible show wpList _ _ _ ({ dst := _, op := Op.build 49 _, type := _, pos := _, after := _, guard := _ } :: _) _ _; refine Shut.out ?_)
      show wpList _ _ _ _ _ _
      refine wpList_val8 (.agg (cb x9).toArray) rfl (exec_bld rfl (by simp only [List.map_toArray, List.map_cons, List.map_nil]; rfl) hbn) ?_
      clear hbn
      simp only [Act.put, List.setIfInBounds_toArray, List.set_cons_zero, List.set_cons_succ]
      go_wp2_with (with_reducible show wpList _ _ _ ({ dst := _, op := Op.store 49 _ _, type := _, pos := _, after := _, guard := _ } :: _) _ _; refine Shut.out ?_)
      show wpList _ _ _ _ _ _
      refine wpList_store_mid rfl _ _ _ rfl g (i * 32) (cb x9).toArray rfl rfl (by rw [show (cb x9).toArray.size = 32 from hcl]; exact HTH.out) (by rw [show (cb x9).toArray.size = 32 from hcl]; exact infoHs) (all_oneCell_toArray (cb_one _)) ?_
      simp only [Act.put]
      clear HTH
      generalize World.setCells wr g (i * 32) (cb x9).toArray.toList = W5 at *
      go_wp2
      go_roundw
      case rel => exact ⟨i + 1, by go_num, by omega, HNX⟩
      case measure => simp [intOf]; omega
    · have hlt' : ¬ (i : Int) < (kn : Int) := by omega
      obtain rfl : i = kn := by omega
      have HK21 := Hid.of (show HO wr W16.heap.size (.slice a18 i c18) (List.replicate i n9) by rw [← wr9_all HKN.out.1]; exact hI.out.1)
      have HF21 := Hid.of hI.out.2
      have hbn := build_n9 wr
      have h932 := n9_len
      have hcl : (cb n9).length = 32 := by rw [cb_length]; rfl
      have HR9 := Hid.of (fun t => rep9_32 t)
      have HBN := Hid.of build_n9
      clear hI
      generalize n9 = x9 at *
      go_wp2_with (with_reducible show wpList _ _ _ ({ dst := _, op := Op.build 49 _, type := _, pos := _, after := _, guard := _ } :: _) _ _; refine Shut.out ?_)
      show wpList _ _ _ _ _ _
      refine wpList_val8 (.agg (cb x9).toArray) rfl (exec_bld rfl (by simp only [List.map_toArray, List.map_cons, List.map_nil]; rfl) hbn) ?_
      clear hbn
      simp only [Act.put, List.setIfInBounds_toArray, List.set_cons_zero, List.set_cons_succ]
      refine wpList_buildHs rfl _ rfl h932 (by simp only [List.map_toArray, List.map_cons, List.map_nil]; rfl) ?_
      simp only [Act.put, List.setIfInBounds_toArray, List.set_cons_zero, List.set_cons_succ]
      refine wpList_appH9 rfl _ _ rfl W16.heap.size (.slice a18 i c18) (List.replicate i x9) i (List.length_replicate ..) x9 h932 rfl HK21.out 1 rfl (by omega) (Nat.le_trans HKB.out.2.2.1 HF21.out.size) ?_
      intro v22 W22 h1 h2 h3
      simp only [Act.put, List.setIfInBounds_toArray, List.set_cons_zero, List.set_cons_succ]
      obtain ⟨a22, c22, hv22, hc22⟩ := row_sh h1
      rw [List.length_append, List.length_replicate] at hv22 hc22
      obtain ⟨m22, hm22⟩ : ∃ t, i + [x9].length = t := ⟨_, rfl⟩
      rw [hm22] at hv22 hc22
      subst hv22
      have HM22 := Hid.of (show m22 = i + 1 from hm22.symm)
      have HMO := Hid.of (show HL W22 (.slice a22 m22 c22) (List.replicate i x9 ++ [x9]) from HO.hl h1 (fun h hh => by
        rw [← List.replicate_succ'] at hh
        exact HR9.out (i + 1) h hh))
      have HKF := Hid.of (show HL W22 (.slice a18 i c18) (List.replicate i x9) from HO.hl h2 (HR9.out i))
      have HF22 := Hid.of (HF21.out.trans (Fr.of_grown h3))
      clear h1 h2 h3 HK21 HF21 HK20 hm22
      have HU422 := Hid.of (HF22.out.up HU420.out (fun j hj h => by have h1 := (HKB.out.1 j h).1; have h2 := HKB.out.2.1; omega))
      have HR22 := Hid.of (HR20.out.fr HF22.out (fun g hg h => by
        obtain rfl : bR = g := Option.some.inj hg
        have h1 := (HKB.out.1 bR h).1; have h2 := HKB.out.2.2.2.1; omega))
      have HL22 := Hid.of (HL20.out.fr HF22.out (fun g hg h => by have h1 := (HKB.out.1 g h).1; have h2 := (HLR.out.1 g hg).2; omega))
      have HH22 := Hid.of (HH20.out.fr HF22.out (fun g hg h => by have h1 := (HKB.out.1 g h).1; have h2 := (HLR.out.2.1 g hg).2; omega))
      have HBK22 := Hid.of (HBK20.out.fr HF22.out (fun g hg h => (HKB.out.1 g h).2 hg))
      clear HF22 HU420 HR20 HL20 HH20 HBK20 HKB HLR
      have HAS22 := Hid.of (show Sl W22 (.slice (some ⟨bR, 0, none⟩) j (j + 200)) l by
        have h0 := HR22.out
        unfold lt7 at h0
        have h := Sl.pre8 h0
        rw [HN.out.2.2] at h
        exact h)
      go_wp2_with fail
      refine (ParseAsk_walk (.slice (some ⟨bR, 0, none⟩) j (j + 200)) l W22 HAS22.out (HT.out.up (HU4.out.trans HU422.out)) (WhiteTab_up HW.out (HU4.out.trans HU422.out)) (HG.out.up (HU4.out.trans HU422.out))).mono ?_
      rintro e W23 hR23
      obtain ⟨v18, v19, rfl, q23, hk23, hg23, _⟩ := HPX.out _ _ _ hR23
      obtain ⟨b18, d18, rfl, _⟩ := row_sh hk23
      obtain ⟨b19, d19, rfl, _⟩ := own_shape hg23
      have hkh := hk23.hl HK32.out
      have hgs := own_sl hg23
      rw [HKN.out.1] at hkh ⊢
      rw [HKN.out.2.1] at hgs ⊢
      have HK23 := Hid.of hkh
      have HG23 := Hid.of hgs
      have HU23 := Hid.of q23
      clear hR23 q23 hk23 hg23 hkh hgs
      dsimp only
      go_wp2_with fail
      refine (proofs_walk (.slice b18 i d18) (.slice a15 i c15) K W23 HK23.out (HL22.out.up HU23.out) (by rw [HKN.out.1]; omega)).mono ?_
      rintro e W24 ⟨rfl, q24⟩
      have HU24 := Hid.of (HU23.out.trans q24)
      have HG24 := Hid.of (HG23.out.up q24)
      clear q24 HK23 HG23 HU23
      dsimp only
      have cg := conv_sl HG24.out
      have ch := conv_sl (HH22.out.up HU24.out)
      rw [HKN.out.2.2] at cg ch
      have q3 : W24.cell? ⟨xb, 3, none⟩ = some (.slice aa j ac) := (HU422.out.trans HU24.out).cell (HQ4.out 3 _ rfl)
      go_wp2_with fail
      clear cg ch
      refine (kept_walk _ W24 bb _ vL3 vM3 (by simp) (HBK22.out.fr (Fr.of_up HU24.out : Fr (fun _ => False) _ _) (fun _ _ h => h))).mono ?_
      rintro e W25 ⟨rfl, rfl⟩
      dsimp only
      go_wp2_with fail
      clear q3
      refine (whole_walk (.slice (some ⟨bR, 0, none⟩) (j + 200) (j + 200)) (.slice aa j ac) l W25 (HR22.out.up HU24.out) (HA.out.up (HU4.out.trans (HU422.out.trans HU24.out))) (by rw [HN.out.2.2]; omega)).mono ?_
      rintro e W26 ⟨rfl, q26⟩
      have HU26 := Hid.of (HU24.out.trans q26)
      have HMO26 := Hid.of (HMO.out.up HU26.out)
      have HKF26 := Hid.of (HKF.out.up HU26.out)
      have HUE := Hid.of (HU4.out.trans (HU422.out.trans HU26.out))
      clear q26 HU24 HU26 HMO HKF HG24 HBK22 HH22 HL22 HR22 HAS22 HU422
      dsimp only
      go_wp2
      go_loopw [23] (fun v23 wr => ∃ t : Nat, v23 = .int .i64 (t : Int) ∧ t ≤ m22 ∧ wr = W26) (fun v23 _ => m22 - (intOf v23).toNat)
      case atStart => exact ⟨0, rfl, by omega, rfl⟩
      case round =>
        obtain ⟨t, rfl, ht, hwr⟩ := hrel
        obtain rfl := hwr.symm
        clear hwr
        by_cases hlt : t < m22
        · have hltz : (t : Int) < (m22 : Int) := by omega
          have hlr : (List.replicate i x9 ++ [x9]).length = m22 := by rw [List.length_append, List.length_replicate, HM22.out]; rfl
          have htl : t < (List.replicate i x9 ++ [x9]).length := by rw [hlr]; exact hlt
          have hge : (List.replicate i x9 ++ [x9])[t] = x9 := by
            rcases List.mem_append.1 (List.getElem_mem htl) with h | h
            · exact (List.mem_replicate.1 h).2
            · exact List.mem_singleton.1 h
          obtain ⟨b2, o2, rfl, hr2⟩ := HL.get HMO26.out htl rfl
          rw [hge] at hr2
          have HR2 := Hid.of hr2
          have hcz2 : (m22 : Int) ≤ (c22 : Int) := by
            obtain ⟨_, _, e, hc, _⟩ := HMO26.out
            injection e with _ e2 e3
            omega
          have htw : IntKind.i64.wrap ((t : Int) + 1) = (t : Int) + 1 := by have := HM22.out; rw [IntKind.wrap_i64]; omega
          have hbn := HBN.out W26
          clear hge hr2 htl hlr
          by_cases hti : t < i
          · have htiz : (t : Int) < (i : Int) := by omega
            have htl : t < (List.replicate i x9).length := by rw [List.length_replicate]; exact hti
            obtain ⟨b1, o1, rfl, hr1⟩ := HL.get HKF26.out htl rfl
            rw [List.getElem_replicate] at hr1
            have HR1 := Hid.of hr1
            have hcz1 : (i : Int) ≤ (c18 : Int) := by
              obtain ⟨_, _, e, hc, _⟩ := HKF26.out
              rw [List.length_replicate] at e hc
              injection e with _ _ e3
              omega
            clear hr1 htl
            go_wp2_with (with_reducible show wpList _ _ _ ({ dst := _, op := Op.load 49 _, type := _, pos := _, after := _, guard := _ } :: _) _ _; refine Shut.out ?_)
            show wpList _ _ _ _ _ _
            refine wpList_load_g (by kernel_rfl) _ _ rfl b1 (o1 + t * 32) rfl (cb x9) _ HR1.out Tryz.underlying49 rfl (by rw [hcl]; exact infoHs) ?_
            simp only [Act.put, List.setIfInBounds_toArray, List.set_cons_zero, List.set_cons_succ]
            go_wp2_with (with_reducible show wpList _ _ _ ({ dst := _, op := Op.build 49 _, type := _, pos := _, after := _, guard := _ } :: _) _ _; refine Shut.out ?_)
            show wpList _ _ _ _ _ _
            refine wpList_val8g (.agg (cb x9).toArray) (by kernel_rfl) (exec_bld rfl (by simp only [List.map_toArray, List.map_cons, List.map_nil]; rfl) hbn) ?_
            simp only [Act.put, List.setIfInBounds_toArray, List.set_cons_zero, List.set_cons_succ]
            refine wpList_val8g (.bool false) (by kernel_rfl) (exec_neqH rfl x9 rfl rfl h932 _) ?_
            simp only [Act.put, List.setIfInBounds_toArray, List.set_cons_zero, List.set_cons_succ]
            go_wp2_with (with_reducible show wpList _ _ _ ({ dst := _, op := Op.load 49 _, type := _, pos := _, after := _, guard := _ } :: _) _ _; refine Shut.out ?_)
            show wpList _ _ _ _ _ _
            refine wpList_load_g (by kernel_rfl) _ _ rfl b2 (o2 + t * 32) rfl (cb x9) _ HR2.out Tryz.underlying49 rfl (by rw [hcl]; exact infoHs) ?_
            simp only [Act.put, List.setIfInBounds_toArray, List.set_cons_zero, List.set_cons_succ]
            go_wp2_with (with_reducible show wpList _ _ _ ({ dst := _, op := Op.build 49 _, type := _, pos := _, after := _, guard := _ } :: _) _ _; refine Shut.out ?_)
            show wpList _ _ _ _ _ _
            refine wpList_val8g (.agg (cb x9).toArray) (by kernel_rfl) (exec_bld rfl (by simp only [List.map_toArray, List.map_cons, List.map_nil]; rfl) hbn) ?_
            simp only [Act.put, List.setIfInBounds_toArray, List.set_cons_zero, List.set_cons_succ]
            refine wpList_val8g (.bool false) (by kernel_rfl) (exec_neqH rfl x9 rfl rfl h932 _) ?_
            simp only [Act.put, List.setIfInBounds_toArray, List.set_cons_zero, List.set_cons_succ]
            clear hbn
            go_wp2
            go_roundw
            case rel => exact ⟨t + 1, by go_num, by omega, by simp⟩
            case measure => simp [intOf]; omega
          · have htiz : ¬ (t : Int) < (i : Int) := by omega
            go_wp2_with (with_reducible show wpList _ _ _ ({ dst := _, op := Op.load 49 _, type := _, pos := _, after := _, guard := _ } :: _) _ _; refine Shut.out ?_)
            show wpList _ _ _ _ _ _
            refine wpList_load_g (by kernel_rfl) _ _ rfl b2 (o2 + t * 32) rfl (cb x9) _ HR2.out Tryz.underlying49 rfl (by rw [hcl]; exact infoHs) ?_
            simp only [Act.put, List.setIfInBounds_toArray, List.set_cons_zero, List.set_cons_succ]
            go_wp2_with (with_reducible show wpList _ _ _ ({ dst := _, op := Op.build 49 _, type := _, pos := _, after := _, guard := _ } :: _) _ _; refine Shut.out ?_)
            show wpList _ _ _ _ _ _
            refine wpList_val8g (.agg (cb x9).toArray) (by kernel_rfl) (exec_bld rfl (by simp only [List.map_toArray, List.map_cons, List.map_nil]; rfl) hbn) ?_
            simp only [Act.put, List.setIfInBounds_toArray, List.set_cons_zero, List.set_cons_succ]
            refine wpList_val8g (.bool false) (by kernel_rfl) (exec_neqH rfl x9 rfl rfl h932 _) ?_
            simp only [Act.put, List.setIfInBounds_toArray, List.set_cons_zero, List.set_cons_succ]
            clear hbn
            go_wp2
            go_roundw
            case rel => exact ⟨t + 1, by go_num, by omega, by simp⟩
            case measure => simp [intOf]; omega
        · have hltz : ¬ (t : Int) < (m22 : Int) := by omega
          go_wp2
          go_ret
          exact ⟨rfl, HUE.out⟩
end Go.Proofs.YtaobnnlcfefodaaGreatDoor
namespace Go.Proofs.YtaobnnlcfefodaaGreatDoor
open Go.RowKit TextNum Go.Lib Go.ChangeShapes Go.WideShapes Go.ChangeAt Go.WideElems Go.WideMaps
set_option maxRecDepth 100000 in
theorem bytesH32 : Tryz.prog.bytesOf 48 = 32 := by kernel_rfl
set_option maxRecDepth 100000 in
theorem cellsWask : Tryz.prog.cellsOf 25 = 4 := by kernel_rfl
theorem cell_byteW {v : Value} {z : Int} (h : v = .int .u8 z) (h0 : 0 ≤ z) (h1 : z ≤ 255) : ∃ c : UInt8, v = .int .u8 (c.toNat : Int) := by
  subst h
  refine ⟨UInt8.ofNat z.toNat, ?_⟩
  rw [UInt8.toNat_ofNat', Nat.mod_eq_of_lt (by omega)]
  congr 1
  omega
theorem bytes_ofW : ∀ (l : List Value), (∀ v, v ∈ l → ∃ c : UInt8, v = .int .u8 (c.toNat : Int)) → ∃ r : List UInt8, l = cb r
  | [], _ => ⟨[], rfl⟩
  | v :: l, h => by
    obtain ⟨c, hc⟩ := h v (by simp)
    obtain ⟨r, hr⟩ := bytes_ofW l (fun u hu => h u (by simp [hu]))
    exact ⟨c :: r, by rw [hc, hr]; rfl⟩
set_option maxRecDepth 100000 in
/-- one hash's cells -/
theorem hash_open {H : Type} {enc : TypeId × Value → H} {W : World} {fuel : Nat} {cs : List Value} {d : DataW H} {ps : List MemPlace} (hl : cs.length = 32) (hf : DataW.trod enc Tryz.prog W 0 (fun _ => true) true fuel 48 cs = some (d, ps)) :
    ∃ r : List UInt8, r.length = 32 ∧ cs = cb r := by
  obtain ⟨ys, m2, _, _, hlen, hyl, hel⟩ := DataW.trod_array Tryz.underlying48 hf
  rw [show Tryz.prog.cellsOf 5 = 1 by kernel_rfl] at hel
  obtain ⟨r, hr⟩ := bytes_ofW cs (fun v hv => by
    obtain ⟨i, hi, e⟩ := List.getElem_of_mem hv
    have h1 := hel i (by omega)
    rw [Nat.mul_one, List.drop_eq_getElem_cons hi, List.take_succ_cons, List.take_zero, List.getElem?_eq_getElem (by omega)] at h1
    obtain ⟨z, ez, _, wz⟩ := DataW.trod_int Tryz.underlying5 h1
    have hb : 0 ≤ z ∧ z ≤ 255 := by simpa [Lit.wf, IntKind.min, IntKind.max, IntKind.signed, IntKind.bits] using wz
    rw [e] at ez
    exact cell_byteW (by simpa using ez) hb.1 hb.2)
  refine ⟨r, ?_, hr⟩
  rw [hr, cb_length] at hl
  exact hl
set_option maxRecDepth 100000 in
/-- a list of hashes that is given -/
theorem hashes_open {H : Type} {enc : TypeId × Value → H} {W : World} {fuel : Nat} {cs : List Value} {d : DataW H} {ps : List MemPlace} (hf' : DataW.trod enc Tryz.prog W 0 (fun _ => true) true fuel 22 cs = some (d, ps)) :
    ∃ v hs, cs = [v] ∧ HL W v hs ∧ hs.length ≤ Rows.uptoBulk d := by
  rcases DataW.trod_slice Tryz.underlying22 hf' with ⟨e1, _⟩ | ⟨ad, len, cap, elems, rest, n, _, e1, hx, _, hlc, _, hel0, hel, _, _⟩
  · exact ⟨_, [], e1, ⟨none, 0, rfl, Nat.le_refl _, fun j hj => by cases hj⟩, Nat.zero_le _⟩
  · rw [show Tryz.prog.cellsOf 48 = 32 by kernel_rfl] at hel
    have key : ∀ i (hi : i < len), ∃ q : List UInt8, q.length = 32 ∧ ∀ j v, (cb q)[j]? = some v → W.cell? ((ad.add (i * 32)).add j) = some v := by
      intro i hi
      have h1 := hel i hi
      rw [List.getElem?_eq_getElem (by omega), Option.bind_eq_some_iff] at h1
      obtain ⟨cs, hcs, hy⟩ := h1
      obtain ⟨r, hr, hq⟩ := hash_open (World.cells?_some hcs).2.1 hy
      subst hq
      refine ⟨r, hr, fun j v hv => ?_⟩
      have hj : j < 32 := by have := (List.getElem?_eq_some_iff.1 hv).1; rw [cb_length] at this; omega
      have := (World.cells?_some hcs).2.2 j hj
      rw [this]
      exact hv
    have mk : ∀ k, k ≤ len → ∃ ss : List (List UInt8), ss.length = k ∧ ∀ i (hi : i < ss.length), ss[i].length = 32 ∧ ∀ j v, (cb ss[i])[j]? = some v → W.cell? ((ad.add (i * 32)).add j) = some v := by
      intro k
      induction k with
      | zero => exact fun _ => ⟨[], rfl, fun i hi => by cases hi⟩
      | succ k ih =>
        intro hk
        obtain ⟨ts, hl, ht⟩ := ih (by omega)
        obtain ⟨s, hk0, hk1⟩ := key k (by omega)
        refine ⟨ts ++ [s], by rw [List.length_append, hl]; rfl, fun i hi => ?_⟩
        by_cases hik : i < ts.length
        · rw [List.getElem_append_left hik]
          exact ht i hik
        · have e : i = k := by rw [List.length_append] at hi; simp at hi; omega
          subst e
          rw [List.getElem_append_right (by omega)]
          simp only [hl, Nat.sub_self, List.getElem_cons_zero]
          exact ⟨hk0, hk1⟩
    obtain ⟨ss, hl, ht⟩ := mk len (Nat.le_refl _)
    refine ⟨_, ss, e1, ⟨some ad, cap, by rw [hl], by rw [hl]; exact hlc, fun i hi => ⟨(ht i hi).1, ?_⟩⟩, ?_⟩
    · have h1 := (ht i hi).2
      obtain ⟨u0, h00⟩ : ∃ u, W.cell? ((ad.add (0 * 32)).add 0) = some u := by
        have h9 := ht 0 (by omega)
        exact ⟨_, h9.2 0 _ (cb_get (by rw [h9.1]; decide))⟩
      obtain ⟨u1, h10⟩ : ∃ u, W.cell? ((ad.add (i * 32)).add 0) = some u := ⟨_, h1 0 _ (cb_get (by rw [(ht i hi).1]; decide))⟩
      clear hel hel0
      obtain ⟨b, off, sp⟩ := ad
      cases sp with
      | some s => exfalso; simp only [World.cell?, Addr.add] at h00; split at h00 <;> simp at h00
      | none =>
        refine ⟨b, off, rfl, ?_, fun j v hv => ?_⟩
        · rw [add_plain, add_plain] at h10
          exact lt_of_cell h10
        · have h2 := h1 j v hv
          rw [add_plain, add_plain] at h2
          exact h2
    · injection hx with hd _
      rw [hd, hl]
      simp only [Rows.uptoBulk]
      have h2 := len_le (elems.map (·.1))
      rw [List.length_map] at h2
      omega
set_option maxRecDepth 100000 in
/-- an ask and its parts, as an argument -/
theorem open_wask {H : Type} {enc : TypeId × Value → H} {W : World} {v : Value} {d : DataW H} {ps : List MemPlace} {base : Nat} (hval : Value.okWide Tryz.prog W .any base 25 v) (h : DataW.Trod enc Tryz.prog W 0 (fun _ => true) true 25 v d ps) :
    ∃ z v1 v2 v3 hs m l, v = .agg #[.int .i64 z, v1, v2, v3] ∧ HL W v1 hs ∧ Sl W v2 m ∧ Sl W v3 l ∧ hs.length ≤ Rows.uptoBulk d ∧ m.length ≤ Rows.uptoBulk d ∧ l.length ≤ Rows.uptoBulk d := by
  obtain ⟨cs, rfl, hsz⟩ := okWide_struct Tryz.underlying25 hval
  rw [cellsWask] at hsz
  obtain ⟨c0, c1, c2, c3, rfl⟩ : ∃ a b c d, cs = #[a, b, c, d] := by
    obtain ⟨l⟩ := cs
    match l, hsz with
    | [a, b, c, d], _ => exact ⟨a, b, c, d, rfl⟩
  obtain ⟨fuel, hf⟩ := h
  obtain ⟨xs, n, _, hx, _, hlen, hg⟩ := DataW.trod_struct Tryz.underlying25 hf
  match xs, hlen with
  | [y0, y1, y2, y3], _ =>
    have h0 := hg 0 _ rfl
    have h1 := hg 1 _ rfl
    have h2 := hg 2 _ rfl
    have h3 := hg 3 _ rfl
    have g0 : DataW.trod enc Tryz.prog W 0 (fun _ => true) true n 3 [c0] = some y0 := h0
    have g1 : DataW.trod enc Tryz.prog W 0 (fun _ => true) true n 22 [c1] = some y1 := h1
    have g2 : DataW.trod enc Tryz.prog W 0 (fun _ => true) true n 23 [c2] = some y2 := h2
    have g3 : DataW.trod enc Tryz.prog W 0 (fun _ => true) true n 23 [c3] = some y3 := h3
    clear h0 h1 h2 h3 hg
    obtain ⟨d0, q0⟩ := y0
    obtain ⟨d1, q1⟩ := y1
    obtain ⟨d2, q2⟩ := y2
    obtain ⟨d3, q3⟩ := y3
    obtain ⟨z, e0, _, _⟩ := DataW.trod_int Tryz.underlying3 g0
    obtain ⟨v1, hs, e1, k1, k2⟩ := hashes_open g1
    have b2 : ∃ a l c, c2 = .slice a l c := by
      rcases open_ints Tryz.underlying23 Tryz.underlying5 cells8' g2 with ⟨e1, _⟩ | ⟨ad, l2, c2, zs, e1, _⟩ <;> (simp only [List.cons.injEq, and_true] at e1; exact ⟨_, _, _, e1⟩)
    have b3 : ∃ a l c, c3 = .slice a l c := by
      rcases open_ints Tryz.underlying23 Tryz.underlying5 cells8' g3 with ⟨e1, _⟩ | ⟨ad, l2, c2, zs, e1, _⟩ <;> (simp only [List.cons.injEq, and_true] at e1; exact ⟨_, _, _, e1⟩)
    obtain ⟨a2, n2, k2', rfl⟩ := b2
    obtain ⟨a3, n3, k3', rfl⟩ := b3
    obtain ⟨m, hm, hmb⟩ := open_bytes (v := .slice a2 n2 k2') ⟨n, g2⟩ a2 n2 k2' rfl
    obtain ⟨l, hl, hlb⟩ := open_bytes (v := .slice a3 n3 k3') ⟨n, g3⟩ a3 n3 k3' rfl
    simp only [List.cons.injEq, and_true] at e0 e1
    subst e0 e1
    injection hx with hd _
    have hbk : Rows.uptoBulk d = Rows.uptoBulk d0 + (Rows.uptoBulk d1 + (Rows.uptoBulk d2 + (Rows.uptoBulk d3 + 0))) + 1 := by
      rw [hd]
      simp only [Rows.uptoBulk, Rows.uptoBulkAll, List.map_cons, List.map_nil]
    exact ⟨z, _, _, _, hs, m, l, rfl, k1, hm, hl, by omega, by omega, by omega⟩
set_option maxRecDepth 100000 in
theorem whiteXf : WhiteExtra Tryz.prog Tryz.lays199_ren := ⟨by kernel_rfl, by kernel_rfl, by kernel_rfl, by kernel_rfl, by kernel_rfl, by kernel_rfl, by kernel_rfl, by kernel_rfl⟩
set_option maxRecDepth 100000 in
theorem white_dataf : (Rows.laid_unicode_White_Space : DataW Unit) = whiteData := by kernel_rfl
theorem white_off {W : World} (h : VarReads Tryz.prog W "unicode.White_Space" Rows.laid_unicode_White_Space) : WhiteTab 6 W := by
  rw [white_dataf] at h
  exact whiteTab_of_reads Tryz.lays199 whiteXf h
set_option maxRecDepth 100000 in
theorem tabLet : (Rows.laid_ledger_text_letters : DataW Unit) = tabData .u8 (TextNum.LT.map fun c => (c.toNat : Int)) := by kernel_rfl
set_option maxRecDepth 100000 in
theorem tabPow : (Rows.laid_internal_strconv_uint64pow10 : DataW Unit) = tabData .u64 pow10Tab := by kernel_rfl
set_option maxRecDepth 100000 in
theorem nLet : Tryz.prog.globalNamed "ledger/text.letters" = some 0 := by kernel_rfl
set_option maxRecDepth 100000 in
theorem nErr : Tryz.prog.globalNamed "strconv.ErrRange" = some 5 := by kernel_rfl
set_option maxRecDepth 100000 in
theorem let_of {W : World} (h : VarReads Tryz.prog W "ledger/text.letters" Rows.laid_ledger_text_letters) : TabL W := by
  rw [tabLet] at h
  obtain ⟨g, t, cs, fuel, p, hg, hty, hvar, hd⟩ := h
  obtain rfl := Option.some.inj (nLet.symm.trans hg)
  obtain rfl := Option.some.inj ((show (Tryz.prog.globals[0]?).map (·.type) = some 95 by kernel_rfl).symm.trans hty)
  have hcs := cells_of_tab Tryz.underlying95 Tryz.underlying5 (by kernel_rfl) (by kernel_rfl) hd
  intro i hi
  have hl : i < TextNum.LT.length := by simpa [TextNum.LT] using hi
  rw [World.var?_cell hg hvar i, ← Array.getElem?_toList, hcs]
  simp [TextNum.lt, List.getD, hl]
set_option maxRecDepth 100000 in
theorem pow_of {W : World} (h : VarReads Tryz.prog W "internal/strconv.uint64pow10" Rows.laid_internal_strconv_uint64pow10) : TabIs Tryz.prog W "internal/strconv.uint64pow10" .u64 pow10Tab := by
  rw [tabPow] at h
  obtain ⟨g, t, cs, fuel, p, hg, hty, hvar, hd⟩ := h
  obtain rfl := Option.some.inj ((show Tryz.prog.globalNamed "internal/strconv.uint64pow10" = some 3 by kernel_rfl).symm.trans hg)
  obtain rfl := Option.some.inj ((show (Tryz.prog.globals[3]?).map (·.type) = some 132 by kernel_rfl).symm.trans hty)
  have hcs := cells_of_tab Tryz.underlying132 Tryz.underlying114 (by kernel_rfl) (by kernel_rfl) hd
  unfold TabIs
  rw [hvar, ← hcs]
set_option maxRecDepth 100000 in
theorem err_of {W : World} (h : VarReads Tryz.prog W "strconv.ErrRange" Rows.laid_strconv_ErrRange) : ∃ te pe, W.cell? ⟨5, 0, none⟩ = some (.iface te pe) := by
  obtain ⟨g0, t0, cs0, f0, p0, hg0, ht0, hv0, hd0⟩ := h
  obtain rfl := Option.some.inj (nErr.symm.trans hg0)
  obtain rfl := Option.some.inj ((show (Tryz.prog.globals[5]?).map (·.type) = some 98 by kernel_rfl).symm.trans ht0)
  obtain ⟨f1, u, v, hcs, _, _⟩ := iface_of_trod Tryz.underlying98 hd0
  have h0 := World.var?_cell hg0 hv0 0
  rw [← Array.getElem?_toList, hcs] at h0
  exact ⟨u, v, h0⟩
set_option maxRecDepth 100000 in
theorem nBlanks : Tryz.prog.globalNamed "ledger/ledgerref07.blanks" = some 1 := by kernel_rfl
set_option maxRecDepth 100000 in
theorem blanks_data : (Rows.laid_ledger_ledgerref07_blanks : DataW Unit) = .agg (BLK.map fun l => .lit (.string l)) := by kernel_rfl
set_option maxRecDepth 100000 in
theorem blanks_of {W : World} (h : VarReads Tryz.prog W "ledger/ledgerref07.blanks" Rows.laid_ledger_ledgerref07_blanks) : BTab W := by
  rw [blanks_data] at h
  obtain ⟨g, t, cs, fuel, p, hg, hty, hvar, hd⟩ := h
  obtain rfl := Option.some.inj (nBlanks.symm.trans hg)
  obtain rfl := Option.some.inj ((show (Tryz.prog.globals[1]?).map (·.type) = some 103 by kernel_rfl).symm.trans hty)
  intro k hk
  obtain ⟨fuel', d, q, hdi, he⟩ := array_elem Tryz.underlying103 hd k hk
  obtain ⟨s, hs, hx, _⟩ := DataW.trod_string Tryz.underlying9 he
  rw [show Tryz.prog.cellsOf 9 = 1 by kernel_rfl] at hs
  have hkl : k < BLK.length := hk
  rw [List.getElem?_map, List.getElem?_eq_getElem hkl] at hdi
  have e2 : DataW.lit (Lit.string BLK[k]) = (DataW.lit (.string s.data.toList) : DataW Unit) := by
    have h1 : some _ = some d := hdi
    rw [Option.some.injEq] at h1
    exact h1.trans (Prod.mk.inj hx).1
  have e3 : BLK[k] = s.data.toList := by
    injection e2 with e2
    injection e2
  have h0 := congrArg (·[0]?) hs
  simp only [List.getElem?_take, List.getElem?_drop, Nat.mul_one] at h0
  rw [World.var?_cell hg hvar k, ← Array.getElem?_toList]
  have h1 : cs.toList[k]? = some (Value.string s) := by simpa using h0
  rw [h1, List.getD_eq_getElem?_getD, List.getElem?_eq_getElem hkl, Option.getD_some, e3]
theorem glWitnessAsks {W : World} (h : laidMetH Tryz.prog Rows.witnessAsksUptoRow.laid W) : TabL W ∧ WhiteTab 6 W ∧ GN W ∧ BTab W := by
  rw [MakeChecks.laidMetH_plain _ _ _ (by kernel_rfl)] at h
  exact ⟨let_of (laidMet.reads h (by simp [Rows.witnessAsksUptoRow])), white_off (laidMet.reads h (by simp [Rows.witnessAsksUptoRow])), ⟨pow_of (laidMet.reads h (by simp [Rows.witnessAsksUptoRow])), err_of (laidMet.reads h (by simp [Rows.witnessAsksUptoRow]))⟩, blanks_of (laidMet.reads h (by simp [Rows.witnessAsksUptoRow]))⟩
end Go.Proofs.YtaobnnlcfefodaaGreatDoor
