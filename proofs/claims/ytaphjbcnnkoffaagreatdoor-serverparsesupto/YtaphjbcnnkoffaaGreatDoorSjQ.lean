import Derived.Test.YtaphjbcnnkoffaaGreatDoorKA
import Derived.Test.YtaphjbcnnkoffaaGreatDoorKB
import Derived.Lib.BytesEntry
import Derived.Lib.SliceRun
import Derived.Lib.SlBytesConst
import Derived.Laws.Cover1
import Derived.Lib.Strings
import Derived.Deep.MidRow
import Derived.Deep.RegionHeld3
import Derived.Lib.LaidU8
import Derived.Lib.LaidTab
import Derived.LaidMore
import Derived.ProofKit
import Derived.Stop.LaidErr
import Derived.OpenShut
import Derived.ChangeSame
import Derived.Test.YtaphjbcnnkoffaaGreatDoorTie
import Derived.Test.YtaphjbcnnkoffaaGreatDoorCards
import Derived.Lay
import Derived.Stop.Joined
import Derived.SevenTiedAt
import Derived.WideKeyArgs
import Derived.DataReads
import Derived.SizedLaws
import Derived.Deep.DeepHandedRow
import Derived.Deep.DeepWitnessRowRef
namespace Go.Proofs.YtaphjbcnnkoffaaGreatDoor
open Go.RowKit Go.Shelf TextNum ModNum
/-! ### a lookup's body, in plain lists -/
def cu1 (l : List UInt8) : Option (List UInt8 × List UInt8) := if (10 : UInt8) ∈ l then some (l.takeWhile (· != 10), (l.dropWhile (· != 10)).drop 1) else none
theorem cu1_hit : ∀ {a b : List UInt8}, (10 : UInt8) ∉ a → cu1 (a ++ 10 :: b) = some (a, b)
  | [], b, _ => by simp [cu1]
  | c :: a, b, h => by
    have hc : (c != 10) = true := by
      rw [bne_iff_ne]
      intro e
      exact h (by rw [e]; exact List.mem_cons_self)
    have ih := cu1_hit (a := a) (b := b) (fun e => h (List.mem_cons_of_mem _ e))
    unfold cu1 at ih ⊢
    rw [if_pos (by simp)] at ih ⊢
    rw [List.cons_append, List.takeWhile_cons, List.dropWhile_cons, if_pos hc, if_pos hc]
    injection ih with ih
    injection ih with i1 i2
    rw [i1, i2]
theorem cu1_no {l : List UInt8} (h : (10 : UInt8) ∉ l) : cu1 l = none := if_neg h
theorem at10 {l : List UInt8} (h : (10 : UInt8) ∈ l) : ∃ a b, l = a ++ 10 :: b ∧ (10 : UInt8) ∉ a := by
  induction l with
  | nil => cases h
  | cons c l ih =>
    by_cases e : c = 10
    · exact ⟨[], l, by rw [e]; rfl, by simp⟩
    · have h2 : (10 : UInt8) ∈ l := by
        rcases List.mem_cons.1 h with h | h
        · exact absurd h.symm e
        · exact h
      obtain ⟨a, b, e1, e2⟩ := ih h2
      exact ⟨c :: a, b, by rw [e1]; rfl, fun h3 => (List.mem_cons.1 h3).elim (fun h => e h.symm) e2⟩
def lk3 (n r : List UInt8) : Option (List UInt8 × List UInt8 × List UInt8) := (cu1 r).bind fun p => (cu1 p.2).bind fun q => match q.2 with
  | c :: h => if c = 10 then some (n, p.1 ++ 10 :: (q.1 ++ [10]), h) else none
  | [] => none
def lk (l : List UInt8) : Option (List UInt8 × List UInt8 × List UInt8) := (cu1 l).bind fun p => lk3 p.1 p.2
/-- such a body -/
def GOOD (l : List UInt8) (n : Int) (rc h : List UInt8) : Prop := ∃ num, lk l = some (num, rc, h) ∧ prs num 281474976710655 = (n, 0) ∧ (prc rc).e = 0 ∧ h.length ≤ 65536 ∧ ∃ t ss, Spl h t ss
theorem GOOD.one {l : List UInt8} {n n' : Int} {rc rc' h h' : List UInt8} (a : GOOD l n rc h) (b : GOOD l n' rc' h') : n = n' ∧ rc = rc' ∧ h = h' := by
  obtain ⟨m, a1, a2, _⟩ := a
  obtain ⟨m', b1, b2, _⟩ := b
  rw [a1] at b1
  simp only [Option.some.injEq, Prod.mk.injEq] at b1
  obtain ⟨rfl, rfl, rfl⟩ := b1
  rw [a2] at b2
  exact ⟨congrArg Prod.fst b2, rfl, rfl⟩
theorem good_lk {l : List UInt8} (h : lk l = none) : ¬ ∃ n rc m, GOOD l n rc m := fun ⟨n, rc, m, num, e, _⟩ => by
  rw [h] at e
  cases e
theorem good_num {l num rc m : List UInt8} (h : lk l = some (num, rc, m)) (he : (prs num 281474976710655).2 ≠ 0) : ¬ ∃ n rc m, GOOD l n rc m := fun ⟨n, rc', m', num', e, k, _⟩ => by
  rw [h] at e
  simp only [Option.some.injEq, Prod.mk.injEq] at e
  rw [e.1, k] at he
  exact he rfl
theorem good_rec {l num rc m : List UInt8} (h : lk l = some (num, rc, m)) (he : (prc rc).e ≠ 0) : ¬ ∃ n rc m, GOOD l n rc m := fun ⟨n, rc', m', num', e, _, k, _⟩ => by
  rw [h] at e
  simp only [Option.some.injEq, Prod.mk.injEq] at e
  rw [e.2.1] at he
  exact he k
theorem good_note {l num rc m : List UInt8} (h : lk l = some (num, rc, m)) (he : ¬ (m.length ≤ 65536 ∧ ∃ t ss, Spl m t ss)) : ¬ ∃ n rc m, GOOD l n rc m := fun ⟨n, rc', m', num', e, _, _, k⟩ => by
  rw [h] at e
  simp only [Option.some.injEq, Prod.mk.injEq] at e
  rw [e.2.2] at he
  exact he k
/-- behind the n-th line's end -/
def enP : List UInt8 → Nat → Int → Int
  | [], _, _ => -1
  | c :: r, n, i => if c = 10 then (if n = 1 then i + 1 else enP r (n - 1) (i + 1)) else enP r n (i + 1)
theorem enP_no {l : List UInt8} (h : (10 : UInt8) ∉ l) : ∀ n i, enP l n i = -1 := by
  induction l with
  | nil => intro n i; rfl
  | cons c l ih =>
    intro n i
    have hc : ¬ c = 10 := fun e => h (by rw [e]; exact List.mem_cons_self)
    rw [enP, if_neg hc]
    exact ih (fun e => h (List.mem_cons_of_mem _ e)) n (i + 1)
theorem enP_hit {a b : List UInt8} (h : (10 : UInt8) ∉ a) : ∀ (n : Nat) (i : Int), enP (a ++ 10 :: b) n i = if n = 1 then i + a.length + 1 else enP b (n - 1) (i + a.length + 1) := by
  induction a with
  | nil => intro n i; simp [enP]
  | cons c a ih =>
    intro n i
    have hc : ¬ c = 10 := fun e => h (by rw [e]; exact List.mem_cons_self)
    rw [List.cons_append, enP, if_neg hc, ih (fun e => h (List.mem_cons_of_mem _ e))]
    have e1 : i + 1 + (a.length : Int) + 1 = i + ((c :: a).length : Int) + 1 := by
      rw [List.length_cons, Int.natCast_add]
      omega
    rw [e1]
end Go.Proofs.YtaphjbcnnkoffaaGreatDoor
namespace Go.Proofs.YtaphjbcnnkoffaaGreatDoor
open Go.RowKit Go.Shelf TextNum ModNum
/-! ### the library's bytes, as the server uses them -/
theorem bytesOf_natS (ds : List UInt8) : Go.Lib.bytesOf (ds.map fun c => ((c.toNat : Nat) : Int)) = ds := by
  unfold Go.Lib.bytesOf
  rw [List.map_map]
  conv => rhs; rw [← List.map_id ds]
  refine List.map_congr_left fun c _ => ?_
  simp
theorem ixS {w : World} {a : Option Addr} {n c : Nat} {ds : List UInt8} (h : Sl w (.slice a n c) ds) (k : UInt8) : (Extern.BytealgIndexByte.indexByte #[.slice a n c, .int .u8 (k.toNat : Int)]).run Tryz.prog w = .ok (.int .i64 (Go.Lib.indexByte ds k)) w := by
  obtain ⟨a', c', e, hc, hd⟩ := h
  injection e with e1 e2 e3
  subst e1 e2 e3
  cases ds with
  | nil =>
    cases a with
    | none => exact Go.Lib.run_indexByteNil (P := Tryz.prog) w 0 c (k.toNat : Int)
    | some ad => rfl
  | cons d ds =>
    rcases hd with h0 | ⟨b, o, rfl, _, hcell⟩
    · cases h0
    · have h1 := Go.Lib.run_indexByteSlice (P := Tryz.prog) w b o (d :: ds).length c ((d :: ds).map fun c => ((c.toNat : Nat) : Int)) (by simp) (fun i hi => by
        have hi2 : i < (d :: ds).length := hi
        rw [hcell i hi2, List.getD_eq_getElem?_getD, List.getElem?_map, List.getElem?_eq_getElem hi2]
        rfl) (k.toNat : Int)
      rw [bytesOf_natS] at h1
      rw [h1]
      simp
set_option maxRecDepth 100000 in
theorem bIndexByte_walk {a : Option Addr} {n c : Nat} {ds : List UInt8} (k : UInt8) (w : World) (h : Sl w (.slice a n c) ds) : Calls Tryz.prog 28 #[.slice a n c, .int .u8 (k.toNat : Int)] w fun e w' => e = .returned (.int .i64 (Go.Lib.indexByte ds k)) ∧ w' = w := by
  have h1 := @run_callFunc_extern Tryz.prog 49 _ Extern.BytealgIndexByte.indexByte Tryz.func49 (by kernel_rfl) (by kernel_rfl) (by kernel_rfl) (by kernel_rfl)
  have h2 := ixS h k
  generalize Go.Lib.indexByte ds k = z at *
  clear h
  go_enter Tryz.func28, Tryz.ntmps28
  go_wp2
  go_ret
  exact ⟨rfl, rfl⟩
theorem one_byte {w : World} {a : Option Addr} {n c : Nat} {k : UInt8} (h : Sl w (.slice a n c) [k]) : n = 1 ∧ 1 ≤ c ∧ ∃ b o, a = some ⟨b, o, none⟩ ∧ w.cell? ⟨b, o, none⟩ = some (.int .u8 (k.toNat : Int)) := by
  obtain ⟨a', c', e, hc, hd⟩ := h
  injection e with e1 e2 e3
  subst e1 e2 e3
  rcases hd with h0 | ⟨b, o, rfl, _, hcell⟩
  · cases h0
  · exact ⟨rfl, hc, b, o, rfl, by have := hcell 0 (by simp); simpa using this⟩
set_option maxRecDepth 100000 in
set_option maxHeartbeats 1000000 in
theorem bIndex1_walk {a a2 : Option Addr} {n c n2 c2 : Nat} {ds : List UInt8} (k : UInt8) (w : World) (h : Sl w (.slice a n c) ds) (h2 : Sl w (.slice a2 n2 c2) [k]) : Calls Tryz.prog 24 #[.slice a n c, .slice a2 n2 c2] w fun e w' => e = .returned (.int .i64 (Go.Lib.indexByte ds k)) ∧ w' = w := by
  obtain ⟨rfl, hc2, b, o, rfl, hcell⟩ := one_byte h2
  have hI := bIndexByte_walk k w h
  have hc2z : (1 : Int) ≤ (c2 : Int) := by omega
  clear h h2
  go_enter Tryz.func24, Tryz.ntmps24
  go_wp2_with fail
  refine hI.mono ?_
  rintro e w' ⟨rfl, rfl⟩
  dsimp only
  go_wp2
  go_ret
  exact ⟨rfl, rfl⟩
theorem ib_no {l : List UInt8} {k : UInt8} (h : k ∉ l) : Go.Lib.indexByte l k = -1 := by
  induction l with
  | nil => rfl
  | cons c l ih =>
    have hc : (c == k) = false := beq_eq_false_iff_ne.2 (fun e => h (by rw [e]; exact List.mem_cons_self))
    have := ih (fun e => h (List.mem_cons_of_mem _ e))
    simp [Go.Lib.indexByte, hc, this]
theorem ib_hit {a b : List UInt8} {k : UInt8} (h : k ∉ a) : Go.Lib.indexByte (a ++ k :: b) k = (a.length : Int) := by
  induction a with
  | nil => simp [Go.Lib.indexByte]
  | cons c a ih =>
    have hc : (c == k) = false := beq_eq_false_iff_ne.2 (fun e => h (by rw [e]; exact List.mem_cons_self))
    have h2 := ih (fun e => h (List.mem_cons_of_mem _ e))
    have h3 : ((a.length : Int) == -1) = false := beq_eq_false_iff_ne.2 (by omega)
    rw [List.cons_append, Go.Lib.indexByte, hc, h2, if_neg (by simp), h3, if_neg (by simp)]
    simp
theorem sl_pre {w : World} {a : Option Addr} {n c : Nat} {x y : List UInt8} (h : Sl w (.slice a n c) (x ++ y)) : Sl w (.slice a x.length c) x := by
  obtain ⟨a', c', e, hc, hd⟩ := h
  injection e with e1 e2 e3
  subst e1 e3
  rw [List.length_append] at hc
  refine ⟨_, _, rfl, by omega, ?_⟩
  rcases hd with h | ⟨b, off, rfl, hb, hcell⟩
  · exact .inl (List.append_eq_nil_iff.1 h).1
  · refine .inr ⟨b, off, rfl, hb, fun i hi => ?_⟩
    have := hcell i (by rw [List.length_append]; omega)
    rw [List.getElem_append_left hi] at this
    exact this
/-- what is behind a byte of a list -/
theorem sl_dr {w : World} {a : Option Addr} {n c p : Nat} {x y : List UInt8} {z : UInt8} (h : Sl w (.slice a n c) (x ++ z :: y)) (hp : x.length = p) : Sl w (.slice (a.map (fun x => ({ block := x.block, off := x.off + (p + 1) } : Addr))) (n - (p + 1)) (c - (p + 1))) y := by
  obtain ⟨a', c', e, hc, hd⟩ := h
  injection e with e1 e2 e3
  subst e1 e3
  have hl : (x ++ z :: y).length = p + 1 + y.length := by simp [hp]; omega
  rw [hl] at e2 hc
  refine ⟨_, _, by rw [show n - (p + 1) = y.length by omega], by omega, ?_⟩
  rcases hd with h | ⟨b, off, rfl, hb, hcell⟩
  · simp at h
  · refine .inr ⟨b, off + (p + 1), rfl, hb, fun i hi => ?_⟩
    have := hcell (p + 1 + i) (by rw [hl]; omega)
    rw [show off + (p + 1) + i = off + (p + 1 + i) by omega, this]
    congr 3
    have e : (x ++ z :: y)[p + 1 + i]? = y[i]? := by
      rw [List.getElem?_append_right (by omega), hp, show p + 1 + i - p = i + 1 by omega, List.getElem?_cons_succ]
    rw [List.getElem?_eq_getElem (by rw [hl]; omega), List.getElem?_eq_getElem hi] at e
    exact congrArg UInt8.toNat (Option.some.inj e)
theorem sl_dr0 {w : World} {a : Option Addr} {n c p : Nat} {x y : List UInt8} {z : UInt8} (h : Sl w (.slice a n c) (x ++ z :: y)) (hp : x.length = p) (hz : c ≤ p + 1) (b : Option Addr) : Sl w (.slice b (n - (p + 1)) (c - (p + 1))) y := by
  obtain ⟨a', c', e, hc, hd⟩ := h
  injection e with e1 e2 e3
  subst e3
  have hl : (x ++ z :: y).length = p + 1 + y.length := by simp [hp]; omega
  rw [hl] at e2 hc
  have hy : y = [] := List.eq_nil_of_length_eq_zero (by omega)
  subst hy
  exact ⟨_, _, by rw [show n - (p + 1) = 0 by simp at e2; omega]; rfl, by simp, .inl rfl⟩
/-- what bytes.Cut answers at a line's end -/
def BCUT (bv : Value) (ds : List UInt8) (w : World) (e : Ending) (w' : World) : Prop := Up w w' ∧ ((∃ x y v1 v2, ds = x ++ 10 :: y ∧ (10 : UInt8) ∉ x ∧ e = .returned (.tuple #[v1, v2, .bool true]) ∧ Sl w' v1 x ∧ Sl w' v2 y ∧ ∀ g, v2.ownBlock = some g → bv.ownBlock = some g) ∨ ((10 : UInt8) ∉ ds ∧ ∃ v1, e = .returned (.tuple #[v1, .slice none 0 0, .bool false]) ∧ Sl w' v1 ds))
set_option maxRecDepth 100000 in
set_option maxHeartbeats 2000000 in
theorem bCut_walk {a a2 : Option Addr} {n c n2 c2 : Nat} {ds : List UInt8} (hdl : ds.length ≤ 1048576) (w : World) (h : Sl w (.slice a n c) ds) (h2 : Sl w (.slice a2 n2 c2) [10]) : Calls Tryz.prog 11 #[.slice a n c, .slice a2 n2 c2] w (BCUT (.slice a n c) ds w) := by
  have hI := bIndex1_walk 10 w h h2
  obtain ⟨rfl, hc2, _⟩ := one_byte h2
  have HS := Hid.of h
  obtain ⟨_, _, e0, hc, _⟩ := id h
  injection e0 with e1 e2 e3
  subst e1 e3
  have HE := Hid.of e2
  clear h h2 e2
  rcases Classical.em ((10 : UInt8) ∈ ds) with hm | hm
  · obtain ⟨x, y, rfl, hx⟩ := at10 hm
    rw [ib_hit hx] at hI
    have HX := Hid.of hx
    obtain ⟨p, hp⟩ : ∃ p, x.length = p := ⟨_, rfl⟩
    have HP := Hid.of hp
    have hl : (x ++ 10 :: y).length = p + 1 + y.length := by simp [hp]; omega
    have hnl : n = p + 1 + y.length := HE.out.trans hl
    have hpn : (p : Int) + 1 ≤ (n : Int) := by omega
    rw [hl] at hc
    rw [hp] at hI
    have hpz : (p : Int) ≤ (c : Int) := by omega
    have hp0 : (0 : Int) ≤ (p : Int) := by omega
    have hpw : IntKind.i64.wrap ((p : Int) + 1) = (p : Int) + 1 := by
      rw [IntKind.wrap_i64]
      omega
    clear hm hp hl hnl
    by_cases hcp : c = p + 1
    · subst hcp
      go_enter Tryz.func11, Tryz.ntmps11
      go_wp2_with fail
      refine hI.mono ?_
      rintro e w' ⟨rfl, rfl⟩
      dsimp only
      go_wp2
      go_quiet (fail)
      go_wp2
      refine bodyPost_ret (results_tmp3 rfl _ _ _) rfl ?_
      exact ⟨(Up.refl _).drewN _, .inl ⟨x, y, _, _, rfl, HX.out, rfl, (show Sl _ (.slice a p (p + 1)) x by have := sl_pre HS.out; rw [HP.out] at this; exact this).up ((Up.refl _).drewN _), (show Sl _ (.slice a (n - (p + 1)) 0) y by have := sl_dr0 HS.out HP.out (Nat.le_refl _) a; rw [Nat.sub_self] at this; exact this).up ((Up.refl _).drewN _), fun g hg => by cases a <;> exact hg⟩⟩
    · go_enter Tryz.func11, Tryz.ntmps11
      go_wp2_with fail
      refine hI.mono ?_
      rintro e w' ⟨rfl, rfl⟩
      dsimp only
      go_wp2
      go_quiet (fail)
      go_wp2
      refine bodyPost_ret (results_tmp3 rfl _ _ _) rfl ?_
      exact ⟨(Up.refl _).drewN _, .inl ⟨x, y, _, _, rfl, HX.out, rfl, (show Sl _ (.slice a p c) x by have := sl_pre HS.out; rw [HP.out] at this; exact this).up ((Up.refl _).drewN _), (sl_dr HS.out HP.out).up ((Up.refl _).drewN _), fun g hg => by cases a <;> exact hg⟩⟩
  · rw [ib_no hm] at hI
    have HM := Hid.of hm
    clear hm
    go_enter Tryz.func11, Tryz.ntmps11
    go_wp2_with fail
    refine hI.mono ?_
    rintro e w' ⟨rfl, rfl⟩
    dsimp only
    go_wp2
    refine bodyPost_ret (results_tmp3 rfl _ _ _) rfl ?_
    exact ⟨Up.refl _, .inr ⟨HM.out, _, rfl, HS.out⟩⟩
end Go.Proofs.YtaphjbcnnkoffaaGreatDoor
namespace Go.Proofs.YtaphjbcnnkoffaaGreatDoor
open Go.RowKit Go.Shelf TextNum ModNum
theorem run_app_slM {w : World} {B : Nat} {v : Value} {l : List UInt8} (sa : Addr) (sn sc : Nat) (m : List UInt8) (ty : TypeId) (hm : m.length = sn) (hcell : ∀ j u, (cb m)[j]? = some u → w.cell? (sa.add j) = some u) (hown : OwnM w B v l) (hn : l.length + m.length ≤ 140737488355328) (hB : B ≤ w.heap.size) :
    ∃ v' w', (Builtin.append_ #[22, 22] ty #[v, .slice (some sa) sn sc]).run Tryz.prog w = .ok v' w' ∧ OwnM w' B v' (l ++ m) ∧ Below B w w' := by
  subst hm
  obtain ⟨i, hi, hz, hsize, hby⟩ := info_parts Tryz.info8
  have ht : Tryz.prog.underlying 22 = some (.slice 5) := Tryz.underlying22
  have hs : Src Tryz.prog i.size 22 (.slice (some sa) m.length sc) m.length (cb m) w := Src.ofSlice w ht sa m.length sc (cb m) (by rw [cb_length, hsize, Nat.mul_one]) hcell (cb_one m)
  have hlen : (cb l ++ cb m).length = l.length + m.length := by simp [cb]
  have h0 := hown
  obtain ⟨g, cap, cur, fr, rfl, hbg, hg, hfr, hnc, hcm, hcs, htake⟩ := hown
  by_cases hroom : l.length + m.length ≤ cap
  · have hfit : l.length + (cb m).length ≤ cur.size := by rw [hcs, cb_length]; omega
    have hst := run_storeCells_mk Tryz.prog g (l.length * i.size) 5 fr (cb m) 0 cur w hg (by rw [hcs]; exact hfr) (by rw [hsize]; simpa using hfit) (cb_one m)
    simp only [Nat.add_zero] at hst
    have hr : (Builtin.append_ #[22, 22] ty #[.slice (some ⟨g, 0, none⟩) l.length cap, .slice (some sa) m.length sc]).run Tryz.prog w =
        .ok (.slice (some ⟨g, 0, none⟩) (l.length + m.length) cap) (w.setRow g (cur.toList.take (l.length * i.size) ++ cb m ++ cur.toList.drop (l.length * i.size + (cb m).length)).toArray) := by
      simp [Builtin.append_, run_underlying ht, sizeOf, typeInfo, hi, hs.len, hroom, hs.cells, Addr.add_lit, hst]
    refine ⟨_, _, hr, ⟨g, cap, _, fr, by rw [List.length_append], hbg, setRow_heap w g cur _ 5 _ hg, hfr, by rw [List.length_append]; exact hroom, hcm, ?_, ?_⟩, ⟨rfl, rfl, rfl, by simp, fun k hk => setRow_other w g k _ (by omega)⟩⟩
    · simp only [List.size_toArray, List.length_append, List.length_take, List.length_drop, Array.length_toList, cb_length, hsize]
      omega
    · rw [hsize, Nat.mul_one, htake, cb_append, List.length_append, ← hlen]
      exact List.take_left
  · obtain ⟨_, holds⟩ := h0.cells
    have hold := run_firstCells_some (P := Tryz.prog) w.drew i.size l.length ⟨g, 0, none⟩ l.length cap (cb l) (by rw [hsize, cb_length, Nat.mul_one]) (fun j u hj => by rw [add_plain, Nat.zero_add]; exact (World.cell?_drew _ _).trans (holds j u hj))
    have hr := run_append_grow_src (P := Tryz.prog) w 22 22 ty 5 i _ ht hi hz (some ⟨g, 0, none⟩) l.length cap (cb l) hold _ m.length (cb m) hs (by omega) (by omega) (growslice_fits (by omega) (by rw [hby]; omega))
    have hge := grownCap_ge w (l.length + m.length) cap 5
    have hcm2 : grownCap w (l.length + m.length) cap 5 ≤ maxLen := grownCap_le_maxLen w _ cap _ (by unfold maxLen; omega)
    refine ⟨_, _, hr, ⟨w.heap.size, _, _, (0, 0), by rw [List.length_append], hB, heap_alloc_new w.drew _, .inl rfl, by rw [List.length_append]; exact hge, hcm2, ?_, ?_⟩, Below.alloc (Below.drew (Below.refl B w)) hB _⟩
    · simp only [Array.size_append, List.size_toArray, size_zeroCells, hlen]
      simp [Value.cells]
      omega
    · simp only [Array.toList_append, cb_append, List.length_append]
      rw [← hlen]
      exact List.take_left
theorem wpList_appSlM {ops : Array Oper} {rest : List Oper} {o : Oper} {a : Act} {w : World} {Q : Exit → Act → World → Prop} (hgd : o.guard = none) (s x : Operand)
    (ho : o.op = .call { callee := .builtin .append, args := #[s, x], argTypes := #[22, 22] }) (B : Nat) (v vy : Value) (l m : List UInt8) (hs : a.eval s = v) (hown : OwnM w B v l)
    (hx : a.eval x = vy) (hSl : Sl w vy m) (hm0 : m ≠ []) (hn : l.length + m.length ≤ 140737488355328) (hB : B ≤ w.heap.size)
    (h : ∀ v' w', OwnM w' B v' (l ++ m) → Below B w w' → wpList Tryz.prog ops Q rest (a.put o.dst v') w') : wpList Tryz.prog ops Q (o :: rest) a w := by
  obtain ⟨ay, cy, rfl, k1, k2⟩ := hSl
  rcases k2 with h0 | ⟨b, off, rfl, _, hc⟩
  · exact absurd h0 hm0
  · refine wpList_plain hgd fun K hK => ?_
    obtain ⟨v', w', hr, h2, h3⟩ := run_app_slM ⟨b, off, none⟩ m.length cy m o.type rfl (fun j u hu => by
      have hj : j < m.length := by have := (List.getElem?_eq_some_iff.1 hu).1; rwa [cb_length] at this
      rw [add_plain, hc j hj]
      rw [cb_get hj] at hu
      exact hu) hown hn hB
    unfold Oper.wp execOp
    simp only [ho, resolve, invoke, builtin, Sem.run_bind, Sem.run_pure, Result.andThen_ok, List.map_toArray, List.map_cons, List.map_nil, hs, hx, hr]
    exact hK _ _ (h v' w' h2 h3)
set_option maxRecDepth 100000 in
theorem bEqual_walk {v1 v2 : Value} {l1 l2 : List UInt8} (w : World) (h1 : Sl w v1 l1) (h2 : Sl w v2 l2) : Calls Tryz.prog 43 #[v1, v2] w fun e w' => e = .returned (.bool (l1 == l2)) ∧ w' = w := by
  have c1 := conv_sl h1
  have c2 := conv_sl h2
  clear h1 h2
  go_enter Tryz.func43, Tryz.ntmps43
  go_wp2
  go_ret
  exact ⟨by first | rfl | simp, rfl⟩
/-- does it begin with a line's end? -/
def beg10 (l : List UInt8) : Bool := match l with
  | c :: _ => c == 10
  | [] => false
set_option maxRecDepth 100000 in
theorem bHasPrefix_walk {a a2 : Option Addr} {n c n2 c2 : Nat} {ds : List UInt8} (w : World) (h : Sl w (.slice a n c) ds) (h2 : Sl w (.slice a2 n2 c2) [10]) : Calls Tryz.prog 31 #[.slice a n c, .slice a2 n2 c2] w fun e w' => e = .returned (.bool (beg10 ds)) ∧ w' = w := by
  obtain ⟨rfl, hc2, _⟩ := one_byte h2
  obtain ⟨_, _, e0, hc, _⟩ := id h
  injection e0 with e1 e2 e3
  subst e1 e3
  cases ds with
  | nil =>
    simp only [List.length_nil] at e2
    subst e2
    clear h h2
    go_enter Tryz.func31, Tryz.ntmps31
    go_wp2
    go_ret
    exact ⟨rfl, rfl⟩
  | cons x y =>
    have hE := bEqual_walk w (show Sl w (.slice a 1 c) [x] from sl_pre (x := [x]) (y := y) h) h2
    have hbb : ([x] == [(10 : UInt8)]) = beg10 (x :: y) := by simp [beg10]
    rw [hbb] at hE
    have hnz : (1 : Int) ≤ (n : Int) := by rw [e2, List.length_cons]; omega
    have hcz : (1 : Int) ≤ (c : Int) := by rw [List.length_cons] at hc; omega
    generalize beg10 (x :: y) = bb at *
    clear h h2 hbb e2 hc
    go_enter Tryz.func31, Tryz.ntmps31
    go_wp2_with fail
    refine hE.mono ?_
    rintro e w' ⟨rfl, rfl⟩
    dsimp only
    go_wp2
    go_ret
    exact ⟨rfl, rfl⟩
set_option maxRecDepth 100000 in
theorem bCutPrefix_walk {a a2 : Option Addr} {n c n2 c2 : Nat} {ds : List UInt8} (w : World) (h : Sl w (.slice a n c) ds) (h2 : Sl w (.slice a2 n2 c2) [10]) : Calls Tryz.prog 15 #[.slice a n c, .slice a2 n2 c2] w fun e w' => w' = w ∧ ((∃ y v, ds = 10 :: y ∧ e = .returned (.tuple #[v, .bool true]) ∧ Sl w v y) ∨ (beg10 ds = false ∧ ∃ v, e = .returned (.tuple #[v, .bool false]))) := by
  have hH := bHasPrefix_walk w h h2
  have HS := Hid.of h
  obtain ⟨rfl, hc2, _⟩ := one_byte h2
  obtain ⟨_, _, e0, hc, _⟩ := id h
  injection e0 with e1 e2 e3
  subst e1 e3
  have HE := Hid.of e2
  clear h h2 e2
  cases hb : beg10 ds with
  | false =>
    rw [hb] at hH
    have HB := Hid.of hb
    clear hb
    go_enter Tryz.func15, Tryz.ntmps15
    go_wp2_with fail
    refine hH.mono ?_
    rintro e w' ⟨rfl, rfl⟩
    dsimp only
    go_wp2
    go_ret2
    exact ⟨rfl, .inr ⟨by first | trivial | exact HB.out, _, rfl⟩⟩
  | true =>
    rw [hb] at hH
    obtain ⟨y, rfl⟩ : ∃ y, ds = 10 :: y := by
      cases ds with
      | nil => cases hb
      | cons x y => exact ⟨y, by rw [beq_iff_eq.1 (show (x == 10) = true from hb)]⟩
    have hnz : (1 : Int) ≤ (n : Int) := by have := HE.out; rw [List.length_cons] at this; omega
    have hcz : (1 : Int) ≤ (c : Int) := by rw [List.length_cons] at hc; omega
    have HC := Hid.of hc
    clear hb hc
    by_cases hc1 : c = 1
    · subst hc1
      go_enter Tryz.func15, Tryz.ntmps15
      go_wp2_with fail
      refine hH.mono ?_
      rintro e w' ⟨rfl, rfl⟩
      dsimp only
      go_wp2
      go_ret2
      exact ⟨rfl, .inl ⟨y, _, rfl, rfl, by have := sl_dr0 (x := []) HS.out rfl (Nat.le_refl _) a; simpa using this⟩⟩
    · go_enter Tryz.func15, Tryz.ntmps15
      go_wp2_with fail
      refine hH.mono ?_
      rintro e w' ⟨rfl, rfl⟩
      dsimp only
      go_wp2
      go_ret2
      exact ⟨rfl, .inl ⟨y, _, rfl, rfl, by have := sl_dr (x := []) HS.out rfl; simpa using this⟩⟩
end Go.Proofs.YtaphjbcnnkoffaaGreatDoor
namespace Go.Proofs.YtaphjbcnnkoffaaGreatDoor
open Go.RowKit Go.Shelf TextNum ModNum
set_option maxRecDepth 100000 in
set_option maxHeartbeats 1000000 in
theorem bClone_walk (v : Value) (ds : List UInt8) (w : World) (hS : Sl w v ds) (hne : ds ≠ []) (hl : ds.length ≤ 1048576) : Calls Tryz.prog 17 #[v] w fun e w' => ∃ v', e = .returned v' ∧ OwnM w' w.heap.size v' ds ∧ Up w w' := by
  have HS := Hid.of hS
  obtain ⟨a, c, rfl, hc, hd⟩ := hS
  rcases hd with h | ⟨b, o, rfl, _, _⟩
  · exact absurd h hne
  · have HN := Hid.of hne
    have heq : ∀ w', (binOp .eql 22 (.slice (some ⟨b, o, none⟩) ds.length c) (.slice none 0 0)).run Tryz.prog w' = .ok (.bool false) w' := fun w' => Go.Lib.run_eql_slice_nil w' 22 5 (some ⟨b, o, none⟩) ds.length c 0 0 Tryz.underlying22
    have hO0 : OwnM (w.alloc (.cells #[] 5)) w.heap.size (.slice (some ⟨w.heap.size, 0, none⟩) 0 0) [] := ⟨w.heap.size, 0, #[], (0, 0), rfl, Nat.le_refl _, heap_alloc_new w _, .inl rfl, Nat.le_refl _, by unfold maxLen; omega, rfl, rfl⟩
    have HO := Hid.of hO0
    have HU := Hid.of ((Up.refl w).alloc (.cells #[] 5))
    clear hO0 hne
    go_enter Tryz.func17, Tryz.ntmps17
    go_wp2_with (with_reducible show wpList _ _ _ ({ dst := _, op := Op.call { callee := Callee.builtin Builtin.append, args := _, argTypes := _ }, type := _, pos := _, after := _, guard := _ } :: _) _ _; refine Shut.out ?_)
    show wpList _ _ _ _ _ _
    refine wpList_appSlM rfl _ _ rfl w.heap.size _ _ [] ds rfl HO.out rfl (HS.out.up HU.out) HN.out (by simp; omega) HU.out.size ?_
    intro v' w' h1 h2
    simp only [Act.put, List.setIfInBounds_toArray, List.set_cons_zero, List.set_cons_succ]
    have H1 := Hid.of (And.intro h1 (HU.out.step (Nat.le_refl _) h2))
    clear h1 h2
    go_wp2
    go_ret
    exact ⟨_, rfl, by have := H1.out.1; simpa using this, H1.out.2⟩
def PL (ds : List UInt8) : Nat → Nat → Prop
  | 0, s => s = 0
  | 1, s => ∃ x r, ds = x ++ 10 :: r ∧ (10 : UInt8) ∉ x ∧ s = x.length + 1
  | 2, s => ∃ x y r, ds = x ++ 10 :: (y ++ 10 :: r) ∧ (10 : UInt8) ∉ x ∧ (10 : UInt8) ∉ y ∧ s = x.length + 1 + (y.length + 1)
  | _, _ => False
theorem PL.le {ds : List UInt8} : ∀ {i s : Nat}, PL ds i s → s ≤ ds.length
  | 0, s, h => by obtain rfl : s = 0 := h; exact Nat.zero_le _
  | 1, s, ⟨x, r, e, _, h⟩ => by rw [e, h]; simp only [List.length_append, List.length_cons]; omega
  | 2, s, ⟨x, y, r, e, _, _, h⟩ => by rw [e, h]; simp only [List.length_append, List.length_cons]; omega
theorem PL.step {ds : List UInt8} : ∀ {i s : Nat} {x r : List UInt8}, i < 2 → PL ds i s → ds.drop s = x ++ 10 :: r → (10 : UInt8) ∉ x → PL ds (i + 1) (s + (x.length + 1))
  | 0, s, x, r, _, h, e, hx => by
    obtain rfl : s = 0 := h
    refine ⟨x, r, ?_, hx, by omega⟩
    rwa [List.drop_zero] at e
  | 1, s, x, r, _, ⟨y, q, e0, hy, h⟩, e, hx => by
    have : ds.drop s = q := by rw [e0, h]; simp
    rw [this] at e
    exact ⟨y, x, r, by rw [e0, e], hy, hx, by omega⟩
theorem PL.no {ds : List UInt8} : ∀ {i s : Nat}, i < 2 → PL ds i s → (10 : UInt8) ∉ ds.drop s → ∀ x y r, ds = x ++ 10 :: (y ++ 10 :: r) → (10 : UInt8) ∉ x → (10 : UInt8) ∈ y
  | 0, s, _, h, hn, x, y, r, e, _ => by
    obtain rfl : s = 0 := h
    exact absurd (by rw [List.drop_zero, e]; simp) hn
  | 1, s, _, ⟨p, q, e0, hp, h⟩, hn, x, y, r, e, hx => by
    have h1 := cu1_hit (b := q) hp
    rw [← e0, e, cu1_hit hx] at h1
    simp only [Option.some.injEq, Prod.mk.injEq] at h1
    have h2 : ds.drop s = q := by rw [e0, h]; simp
    rw [h2, ← h1.2] at hn
    exact absurd (by simp) hn
/-- what cutTwoLines answers -/
def CTL (bv : Value) (ds : List UInt8) (w : World) (e : Ending) (w' : World) : Prop := Up w w' ∧ ((∃ x y r v1 v2, ds = x ++ 10 :: (y ++ 10 :: r) ∧ (10 : UInt8) ∉ x ∧ (10 : UInt8) ∉ y ∧ e = .returned (.tuple #[v1, v2]) ∧ Sl w' v1 (x ++ 10 :: (y ++ [10])) ∧ Sl w' v2 r ∧ ∀ g, v1.ownBlock = some g → bv.ownBlock = some g) ∨ ((∀ x y r, ds = x ++ 10 :: (y ++ 10 :: r) → (10 : UInt8) ∉ x → (10 : UInt8) ∈ y) ∧ ∃ v2, e = .returned (.tuple #[.slice none 0 0, v2]) ∧ Sl w' v2 ds))
theorem sl_s1 {w : World} {a : Option Addr} {n c s : Nat} {ds : List UInt8} (h : Sl w (.slice a n c) ds) (hs : s ≤ ds.length) : Sl w (.slice (a.map (fun x => ({ block := x.block, off := x.off + s } : Addr))) (n - s) (c - s)) (ds.drop s) := by
  obtain ⟨a', c', e, hc, hd⟩ := h
  injection e with e1 e2 e3
  subst e1 e3
  refine ⟨_, _, by rw [List.length_drop, e2], by rw [List.length_drop]; omega, ?_⟩
  rcases hd with h | ⟨b, off, rfl, hb, hcell⟩
  · left; rw [h]; simp
  · refine .inr ⟨b, off + s, rfl, hb, fun i hi => ?_⟩
    rw [List.length_drop] at hi
    have := hcell (s + i) (by omega)
    rw [show off + s + i = off + (s + i) by omega, this, List.getElem_drop]
theorem sl_s1a {w : World} {a : Option Addr} {n c s : Nat} {ds : List UInt8} (h : Sl w (.slice a n c) ds) (hs : s ≤ ds.length) : Sl w (.slice (a.map (fun x => x.add s)) (n - s) (c - s)) (ds.drop s) := by
  obtain ⟨a', c', e, hc, hd⟩ := h
  injection e with e1 e2 e3
  subst e1 e3
  refine ⟨_, _, by rw [List.length_drop, e2], by rw [List.length_drop]; omega, ?_⟩
  rcases hd with h | ⟨b, off, rfl, hb, hcell⟩
  · left; rw [h]; simp
  · refine .inr ⟨b, off + s, by rw [Option.map_some, add_plain], hb, fun i hi => ?_⟩
    rw [List.length_drop] at hi
    have := hcell (s + i) (by omega)
    rw [show off + s + i = off + (s + i) by omega, this, List.getElem_drop]
theorem sl_s0 {w : World} {a : Option Addr} {n c s : Nat} {ds : List UInt8} (h : Sl w (.slice a n c) ds) (hs : s ≤ ds.length) (hcs : c = s) (b : Option Addr) : Sl w (.slice b (n - s) 0) (ds.drop s) := by
  obtain ⟨a', c', e, hc, hd⟩ := h
  injection e with e1 e2 e3
  subst e3
  have hz : ds.drop s = [] := List.drop_of_length_le (by omega)
  rw [hz]
  exact ⟨_, _, by rw [show n - s = 0 by omega]; rfl, by simp, .inl rfl⟩
set_option maxRecDepth 100000 in
set_option maxHeartbeats 2000000 in
theorem cutTwoLines_walk {a : Option Addr} {n c : Nat} {ds : List UInt8} (hl : ds.length ≤ 1048576) (w : World) (h : Sl w (.slice a n c) ds) : Calls Tryz.prog 13 #[.slice a n c] w (CTL (.slice a n c) ds w) := by
  have HS := Hid.of h
  obtain ⟨_, _, e0, hc, _⟩ := id h
  injection e0 with e1 e2 e3
  subst e1 e3
  have HE := Hid.of e2
  have hcn : (n : Int) ≤ (c : Int) := by omega
  have hnl : n ≤ 1048576 := by omega
  clear h e2
  go_enter Tryz.func13, Tryz.ntmps13
  go_wp2
  go_loopw [4, 5, 6] (fun v4 _ v6 wr => ∃ i s : Nat, v6 = .int .i64 (i : Int) ∧ v4 = .int .i64 (s : Int) ∧ i ≤ 2 ∧ s ≤ n ∧ Hid (PL ds i s ∧ Up w wr)) (fun _ _ v6 _ => 2 - (intOf v6).toNat)
  case atStart => exact ⟨0, 0, rfl, rfl, by omega, by omega, rfl, Up.refl _⟩
  case round =>
    obtain ⟨i, s, rfl, rfl, hi, hsn, HK⟩ := hrel
    have hsz : (s : Int) ≤ (n : Int) := by omega
    by_cases hlt : i < 2
    · have hltz : (i : Int) < 2 := by omega
      have HSL := Hid.of (show s ≤ ds.length by rw [← HE.out]; exact hsn)
      have hs2 : (s : Int) + ((10 : Int) - 10) = (s : Int) := by omega
      by_cases hcs : c = s
      · have HSD := Hid.of (fun k => sl_s0 (HS.out.up (HK.out.2.drewN k)) HSL.out hcs a)
        have HI := Hid.of (fun k => Calls.quiet_of_same (bIndexByte_walk 10 (wr.drewN k) (HSD.out k)))
        have hz : ds.drop s = [] := List.drop_of_length_le (by have := HSL.out; have := HE.out; omega)
        have hnm : (10 : UInt8) ∉ ds.drop s := by rw [hz]; simp
        rw [ib_no hnm] at HI
        have HNO := Hid.of (PL.no hlt HK.out.1 hnm)
        have hscz : (s : Int) ≤ (c : Int) := by omega
        subst hcs
        clear hz hnm
        go_wp2
        go_quiet (exact HI.out _)
        go_wp2
        go_ret2
        exact ⟨HK.out.2.drewN _, .inr ⟨HNO.out, _, rfl, HS.out.up (HK.out.2.drewN _)⟩⟩
      · have HSD := Hid.of (fun k => sl_s1a (HS.out.up (HK.out.2.drewN k)) HSL.out)
        have hscz : (s : Int) ≤ (c : Int) := by omega
        rcases Classical.em ((10 : UInt8) ∈ ds.drop s) with hm | hm
        · obtain ⟨x, y, hxy, hx⟩ := at10 hm
          have HI := Hid.of (fun k => Calls.quiet_of_same (bIndexByte_walk 10 (wr.drewN k) (HSD.out k)))
          rw [hxy, ib_hit hx] at HI
          have HX := Hid.of (And.intro hxy hx)
          obtain ⟨q, hq⟩ : ∃ q, x.length = q := ⟨_, rfl⟩
          rw [hq] at HI
          have HQ := Hid.of hq
          have hsq : s + (q + 1) ≤ n := by
            have h1 := congrArg List.length hxy
            rw [List.length_drop, List.length_append, List.length_cons, hq, ← HE.out] at h1
            omega
          have hw1 : IntKind.i64.wrap ((q : Int) + 1) = (q : Int) + 1 := by rw [IntKind.wrap_i64]; omega
          have hw2 : IntKind.i64.wrap ((s : Int) + ((q : Int) + 1)) = ((s + (q + 1) : Nat) : Int) := by rw [IntKind.wrap_i64]; omega
          have hw3 : IntKind.i64.wrap ((i : Int) + 1) = (i : Int) + 1 := by rw [IntKind.wrap_i64]; omega
          have hq0 : ¬ (q : Int) < 0 := by omega
          clear hm hxy hx hq
          go_wp2
          go_quiet (exact HI.out _)
          go_wp2
          go_roundw
          case rel => exact ⟨i + 1, s + (q + 1), by go_num, rfl, by omega, hsq, by rw [← HQ.out]; exact PL.step hlt HK.out.1 HX.out.1 HX.out.2, HK.out.2.drewN _⟩
          case measure => simp [intOf]; omega
        · have HI := Hid.of (fun k => Calls.quiet_of_same (bIndexByte_walk 10 (wr.drewN k) (HSD.out k)))
          rw [ib_no hm] at HI
          have HNO := Hid.of (PL.no hlt HK.out.1 hm)
          clear hm
          go_wp2
          go_quiet (exact HI.out _)
          go_wp2
          go_ret2
          exact ⟨HK.out.2.drewN _, .inr ⟨HNO.out, _, rfl, HS.out.up (HK.out.2.drewN _)⟩⟩
    · have hltz : ¬ (i : Int) < 2 := by omega
      obtain rfl : i = 2 := by omega
      obtain ⟨x, y, r, hd, hx, hy, hs⟩ := HK.out.1
      have HD := Hid.of (And.intro hd (And.intro hx (And.intro hy hs)))
      have HV1 := Hid.of (show Sl w (.slice a s c) (x ++ 10 :: (y ++ [10])) by
        have h1 : ds = (x ++ 10 :: (y ++ [10])) ++ r := by rw [hd]; simp
        have h2 := HS.out
        rw [h1] at h2
        have h3 := sl_pre h2
        have h4 : (x ++ 10 :: (y ++ [10])).length = s := by rw [hs]; simp only [List.length_append, List.length_cons, List.length_nil]; omega
        rw [h4] at h3
        exact h3)
      have HDR := Hid.of (show ds.drop s = r by
        have h1 : ds = (x ++ 10 :: (y ++ [10])) ++ r := by rw [hd]; simp
        have h4 : (x ++ 10 :: (y ++ [10])).length = s := by rw [hs]; simp only [List.length_append, List.length_cons, List.length_nil]; omega
        rw [h1, ← h4, List.drop_left])
      have HSL := Hid.of (show s ≤ ds.length by rw [← HE.out]; exact hsn)
      have hscz : (s : Int) ≤ (c : Int) := by omega
      clear hd hx hy hs
      by_cases hcs : c = s
      · have HV2 := Hid.of (show Sl w (.slice a (n - s) 0) r by have := sl_s0 HS.out HSL.out hcs a; rw [HDR.out] at this; exact this)
        subst hcs
        go_wp2
        go_quiet (fail)
        go_wp2
        go_ret2
        exact ⟨HK.out.2.drewN _, .inl ⟨x, y, r, _, _, HD.out.1, HD.out.2.1, HD.out.2.2.1, rfl, HV1.out.up (HK.out.2.drewN _), HV2.out.up (HK.out.2.drewN _), fun g hg => by cases a <;> exact hg⟩⟩
      · have HV2 := Hid.of (show Sl w (.slice (a.map (fun x => x.add s)) (n - s) (c - s)) r by have := sl_s1a HS.out HSL.out; rw [HDR.out] at this; exact this)
        have HV3 := Hid.of (show Sl w (.slice (a.map (fun x => ({ block := x.block, off := x.off + s } : Addr))) (n - s) (c - s)) r by have := sl_s1 HS.out HSL.out; rw [HDR.out] at this; exact this)
        go_wp2
        go_quiet (fail)
        go_wp2
        go_ret2
        refine ⟨HK.out.2.drewN _, .inl ⟨x, y, r, _, _, HD.out.1, HD.out.2.1, HD.out.2.2.1, rfl, HV1.out.up (HK.out.2.drewN _), ?_, fun g hg => by cases a <;> exact hg⟩⟩
        first
          | exact HV2.out.up (HK.out.2.drewN _)
          | exact HV3.out.up (HK.out.2.drewN _)
end Go.Proofs.YtaphjbcnnkoffaaGreatDoor
namespace Go.Proofs.YtaphjbcnnkoffaaGreatDoor
open Go.RowKit Go.Shelf TextNum ModNum
theorem Sl.grow {w w' : World} {v : Value} {l : List UInt8} {b : Nat} (h : Sl w v l) (hg : w.grownBy w' (some b)) (hx : ∀ g, v.ownBlock = some g → g ≠ b) : Sl w' v l := by
  obtain ⟨a, c, rfl, hc, hd⟩ := h
  refine ⟨a, c, rfl, hc, ?_⟩
  rcases hd with h1 | ⟨b2, off, rfl, hb, hcell⟩
  · exact .inl h1
  · exact .inr ⟨b2, off, rfl, Nat.lt_of_lt_of_le hb hg.size, fun i hi => by rw [World.cell?_of_block (w := w) (hg.block b2 hb (fun e => hx b2 rfl (Option.some.inj e)))]; exact hcell i hi⟩
theorem sep_mk (w : World) : Sl (w.alloc (.cells #[.int .u8 10] 5 (1, 2))) (.slice (some ⟨w.heap.size, 0, none⟩) 1 1) [10] := by
  refine ⟨_, 1, rfl, by simp, .inr ⟨w.heap.size, 0, rfl, by rw [World.alloc]; simp, fun i hi => ?_⟩⟩
  obtain rfl : i = 0 := by simp at hi; omega
  unfold World.cell?
  dsimp only
  rw [heap_alloc_new w _]
  rfl
theorem lk3_nil (n : List UInt8) : lk3 n [] = none := by simp [lk3, cu1]
theorem lk3_fst {n y : List UInt8} {p : List UInt8 × List UInt8 × List UInt8} (h : lk3 n y = some p) : p.1 = n := by
  unfold lk3 at h
  rw [Option.bind_eq_some_iff] at h
  obtain ⟨a, _, h⟩ := h
  rw [Option.bind_eq_some_iff] at h
  obtain ⟨b, _, h⟩ := h
  split at h
  · split at h
    · rw [← Option.some.inj h]
    · cases h
  · cases h
def lkM (n rc r : List UInt8) : Option (List UInt8 × List UInt8 × List UInt8) := match r with
  | c :: h => if c = 10 then some (n, rc, h) else none
  | [] => none
theorem lk3_two {n x y r : List UInt8} (hx : (10 : UInt8) ∉ x) (hy : (10 : UInt8) ∉ y) : lk3 n (x ++ 10 :: (y ++ 10 :: r)) = lkM n (x ++ 10 :: (y ++ [10])) r := by
  unfold lk3
  rw [cu1_hit hx, Option.bind_some]
  dsimp only
  rw [cu1_hit hy, Option.bind_some]
  cases r <;> rfl
theorem lk3_few {n l : List UInt8} (h : ∀ x y r, l = x ++ 10 :: (y ++ 10 :: r) → (10 : UInt8) ∉ x → (10 : UInt8) ∈ y) : lk3 n l = none := by
  rcases Classical.em ((10 : UInt8) ∈ l) with hm | hm
  · obtain ⟨x, q, rfl, hx⟩ := at10 hm
    unfold lk3
    rw [cu1_hit hx, Option.bind_some]
    dsimp only
    rcases Classical.em ((10 : UInt8) ∈ q) with hq | hq
    · obtain ⟨y, r, rfl, hy⟩ := at10 hq
      exact absurd (h x y r rfl hx) hy
    · rw [cu1_no hq, Option.bind_none]
  · unfold lk3
    rw [cu1_no hm, Option.bind_none]
theorem BCUT.fix {bv : Value} {ds : List UInt8} {w w' : World} {e : Ending} (h : BCUT bv ds w e w') : ∃ x y v1 v2 f, e = .returned (.tuple #[v1, v2, .bool f]) ∧ Sl w' v1 x ∧ Sl w' v2 y ∧ lk ds = lk3 x y ∧ Up w w' ∧ x.length ≤ ds.length ∧ y.length ≤ ds.length ∧ ∀ g, v2.ownBlock = some g → bv.ownBlock = some g := by
  obtain ⟨u, h⟩ := h
  rcases h with ⟨x, y, v1, v2, hd, hx, he, h1, h2, h3⟩ | ⟨hn, v1, he, h1⟩
  · exact ⟨x, y, v1, v2, true, he, h1, h2, by rw [hd]; unfold lk; rw [cu1_hit hx, Option.bind_some], u, by rw [hd, List.length_append]; omega, by rw [hd, List.length_append, List.length_cons]; omega, h3⟩
  · exact ⟨ds, [], v1, _, false, he, h1, ⟨none, 0, rfl, Nat.le_refl _, .inl rfl⟩, by rw [lk3_nil]; unfold lk; rw [cu1_no hn, Option.bind_none], u, Nat.le_refl _, Nat.zero_le _, fun g hg => by cases hg⟩
theorem CTL.fix {bv : Value} {ds n : List UInt8} {w w' : World} {e : Ending} (h : CTL bv ds w e w') : ∃ rc r v1 v2, e = .returned (.tuple #[v1, v2]) ∧ Sl w' v1 rc ∧ Sl w' v2 r ∧ Up w w' ∧ r.length ≤ ds.length ∧ (lk3 n ds = lkM n rc r ∨ (rc = [] ∧ lk3 n ds = none)) ∧ ∀ g, v1.ownBlock = some g → bv.ownBlock = some g := by
  obtain ⟨u, h⟩ := h
  rcases h with ⟨x, y, r, v1, v2, hd, hx, hy, he, h1, h2, h3⟩ | ⟨hn, v2, he, h2⟩
  · exact ⟨_, r, v1, v2, he, h1, h2, u, by rw [hd]; simp only [List.length_append, List.length_cons]; omega, .inl (by rw [hd]; exact lk3_two hx hy), h3⟩
  · exact ⟨[], ds, _, v2, he, ⟨none, 0, rfl, Nat.le_refl _, .inl rfl⟩, h2, u, Nat.le_refl _, .inr ⟨rfl, lk3_few hn⟩, fun g hg => by cases hg⟩
theorem prc_nil : (prc []).e ≠ 0 := by decide +kernel
abbrev z3L : List Value := [.int .i64 0, .string ⟨#[]⟩, .slice none 0 0]
/-- what readLookup answers -/
def RLK (l : List UInt8) (w : World) (e : Ending) (w' : World) : Prop := Up w w' ∧ ((∃ n rc m hv, GOOD l n rc m ∧ e = .returned (.tuple #[.agg #[.int .i64 n, .string ⟨rc.toArray⟩, hv], .bool true]) ∧ Sl w' hv m) ∨ ((¬ ∃ n rc m, GOOD l n rc m) ∧ e = .returned (.tuple #[.agg z3L.toArray, .bool false])))
set_option maxRecDepth 100000 in
theorem infoLk : (Tryz.prog.info? 30).map (·.size) = some 3 := by kernel_rfl
set_option maxRecDepth 100000 in
set_option maxHeartbeats 8000000 in
theorem readLookup_walk {a : Option Addr} {n0 c : Nat} {l : List UInt8} (hl : l.length ≤ 1048576) (w : World) (h : Sl w (.slice a n0 c) l) (hG : GR w) (hT : TabL w) (hW : Go.Lib.WhiteTab 5 w) (hN : GN w) : Calls Tryz.prog 6 #[.slice a n0 c] w (RLK l w) := by
  have HS := Hid.of h
  have HG := Hid.of hG
  have HT := Hid.of hT
  have HW := Hid.of hW
  have HN := Hid.of hN
  have hcs : ∀ W : World, (convert 22 22 (.slice (some ⟨W.heap.size, 0, none⟩) 1 1)).run Tryz.prog (W.alloc (.cells #[.int .u8 10] 5)) = .ok (.slice (some ⟨W.heap.size, 0, none⟩) 1 1) (W.alloc (.cells #[.int .u8 10] 5 (1, 2))) := fun W => Go.Lib.run_convert_bytes_const (P := Tryz.prog) W 22 5 #[.int .u8 10] 1 1 Tryz.underlying22 Tryz.underlying5
  have hsz : (w.alloc (Obj.cells #[.int .i64 0, .string ⟨#[]⟩, .slice none 0 0] 30)).heap.size = w.heap.size + 1 := by rw [World.alloc]; simp
  have hc1 := hcs (w.alloc (Obj.cells #[.int .i64 0, .string ⟨#[]⟩, .slice none 0 0] 30))
  rw [hsz] at hc1
  clear h hG hT hW hN
  go_enter Tryz.func6, Tryz.ntmps6
  go_wp2_with fail
  change Calls _ _ _ ((w.alloc (.cells z3L.toArray 30)).alloc (.cells #[.int .u8 10] 5 (1, 2))) _
  have hsp := sep_mk (w.alloc (.cells z3L.toArray 30))
  rw [show (w.alloc (.cells z3L.toArray 30)).heap.size = w.heap.size + 1 from hsz] at hsp
  have HSP := Hid.of hsp
  have HU0 := Hid.of (((Up.refl w).alloc (.cells z3L.toArray 30)).alloc (.cells #[.int .u8 10] 5 (1, 2)))
  have HA0 := Hid.of ((at_new w 30 z3L).up ((Up.refl _).alloc (.cells #[.int .u8 10] 5 (1, 2))))
  have HLT0 := Hid.of (show w.heap.size < ((w.alloc (.cells z3L.toArray 30)).alloc (.cells #[.int .u8 10] 5 (1, 2))).heap.size by rw [World.alloc, World.alloc]; simp; omega)
  clear hsp hsz hc1
  generalize (w.alloc (.cells z3L.toArray 30)).alloc (.cells #[.int .u8 10] 5 (1, 2)) = W0 at *
  generalize hbr : w.heap.size = bR at *
  have HBR := Hid.of (Nat.le_of_eq hbr)
  refine (bCut_walk hl W0 (HS.out.up HU0.out) HSP.out).mono ?_
  rintro e W1 hC
  obtain ⟨x, y, v1, v2, f, rfl, h1, h2, hlk, u1, hxl, hyl, hb2⟩ := hC.fix
  have HB2 := Hid.of hb2
  clear hb2
  have H1 := Hid.of h1
  have H2 := Hid.of h2
  have HLK := Hid.of hlk
  have HU1 := Hid.of (HU0.out.trans u1)
  have HA1 := Hid.of (HA0.out.up u1)
  have HLT1 := Hid.of (Nat.lt_of_lt_of_le HLT0.out u1.size)
  clear hC h1 h2 hlk u1 HSP HU0 HA0 HLT0
  dsimp only
  obtain ⟨sX, hsX⟩ : ∃ t, (⟨x.toArray⟩ : ByteArray) = t := ⟨_, rfl⟩
  have HSX := Hid.of (show sX.data.toList = x by rw [← hsX])
  have hcv := conv_sl H1.out
  rw [show vs x = .string sX from congrArg Value.string hsX] at hcv
  clear hsX
  go_wp2_with fail
  clear hcv
  have hPN := ParseNumber_walk sX 281474976710655 W1 (HN.out.up HU1.out)
  rw [HSX.out] at hPN
  have HPQ := Hid.of (show prs x 281474976710655 = prs x 281474976710655 from rfl)
  obtain ⟨n, er, hpq⟩ : ∃ n er, prs x 281474976710655 = (n, er) := ⟨_, _, rfl⟩
  rw [hpq] at hPN
  have HPR := Hid.of hpq
  clear hpq HPQ
  refine hPN.mono ?_
  rintro e W2 ⟨rfl, u2⟩
  have H22 := Hid.of (H2.out.up u2)
  have HU2 := Hid.of (HU1.out.trans u2)
  have HA2 := Hid.of (HA1.out.up u2)
  have HLT2 := Hid.of (Nat.lt_of_lt_of_le HLT1.out u2.size)
  clear hPN u2 H1 H2 HU1 HA1 HLT1
  dsimp only
  by_cases he : er = 0
  case neg =>
    have HNO := Hid.of (show ¬ ∃ n rc m, GOOD l n rc m from by
      cases hk : lk3 x y with
      | none => exact good_lk (HLK.out.trans hk)
      | some p =>
        have h1 := lk3_fst hk
        obtain ⟨p1, p2, p3⟩ := p
        obtain rfl : p1 = x := h1
        exact good_num (HLK.out.trans hk) (by rw [HPR.out]; exact he))
    go_wp2_with (with_reducible show wpList _ _ _ ({ dst := _, op := Op.store 30 _ _, type := _, pos := _, after := _, guard := _ } :: _) _ _; refine Shut.out ?_)
    show wpList _ _ _ _ _ _
    refine wpList_store_at rfl _ _ _ rfl bR HA2.out z3L rfl rfl rfl (by kernel_rfl) (by kernel_rfl) fun w5 hA5 hg5 => ?_
    have HU5 := Hid.of (HU2.out.by hg5 (fun g hg => by have e : bR = g := Option.some.inj hg; omega))
    have HA5 := Hid.of hA5
    clear hA5 hg5
    simp only [Act.put]
    go_wp2
    refine bodyPost_ret (result_cell_tmp Tryz.results6 _ _ bR z3L _ rfl rfl HA5.out.range Tryz.underlying30 rfl infoLk) rfl ?_
    exact ⟨HU5.out, .inr ⟨HNO.out, rfl⟩⟩
  subst he
  obtain ⟨a2, n2, c2, rfl⟩ : ∃ a n c, v2 = .slice a n c := by
    obtain ⟨a, c, e, _⟩ := H22.out
    exact ⟨_, _, _, e⟩
  go_wp2_with fail
  refine (cutTwoLines_walk (by omega) W2 H22.out).mono ?_
  rintro e W3 hC
  obtain ⟨rc, r, v9, v5, rfl, h1, h2, u3, hrl, hk3, hb9⟩ := CTL.fix (n := x) hC
  have HB9 := Hid.of (fun g hg => HB2.out g (hb9 g hg))
  clear hb9
  have H9 := Hid.of h1
  have HR5 := Hid.of h2
  have HK3 := Hid.of hk3
  have HU3 := Hid.of (HU2.out.trans u3)
  have HA3 := Hid.of (HA2.out.up u3)
  have HLT3 := Hid.of (Nat.lt_of_lt_of_le HLT2.out u3.size)
  have hrl2 : r.length ≤ 1048576 := by omega
  clear hC h1 h2 u3 hk3 H22 HU2 HA2 HLT2 hrl
  dsimp only
  obtain ⟨sR, hsR⟩ : ∃ t, (⟨rc.toArray⟩ : ByteArray) = t := ⟨_, rfl⟩
  have HSR := Hid.of (show sR.data.toList = rc by rw [← hsR])
  have HRC := Hid.of (show vs rc = .string sR from congrArg Value.string hsR)
  have HRS := Hid.of hsR
  have hcv := conv_sl H9.out
  rw [HRC.out] at hcv
  clear hsR
  go_wp2_with fail
  clear hcv
  have hPR := ParseRecord_walk sR W3 (HG.out.up HU3.out) (HT.out.up HU3.out)
  rw [HSR.out] at hPR
  obtain ⟨pe, hpe⟩ : ∃ t, (prc rc).e = t := ⟨_, rfl⟩
  have HPE := Hid.of hpe
  unfold prcV at hPR
  rw [hpe] at hPR
  clear hpe
  refine hPR.mono ?_
  rintro e W4 ⟨rfl, u4⟩
  have H94 := Hid.of (H9.out.up u4)
  have HR4 := Hid.of (HR5.out.up u4)
  have HU4 := Hid.of (HU3.out.trans u4)
  have HA4 := Hid.of (HA3.out.up u4)
  have HLT4 := Hid.of (Nat.lt_of_lt_of_le HLT3.out u4.size)
  clear hPR u4 H9 HR5 HU3 HA3 HLT3
  dsimp only
  generalize (Value.agg (cb (prc rc).a).toArray) = ga at *
  generalize (Value.agg (cb (prc rc).b).toArray) = gb at *
  generalize vs (prc rc).p = gp at *
  generalize vs (prc rc).v = gv at *
  by_cases hpz : pe = 0
  case neg =>
    have HNO := Hid.of (show ¬ ∃ n rc m, GOOD l n rc m from by
      rcases HK3.out with hk | ⟨rfl, hk⟩
      · cases r with
        | nil => exact good_lk (HLK.out.trans hk)
        | cons q h =>
          by_cases hq : q = 10
          · rw [show lkM x rc (q :: h) = some (x, rc, h) from if_pos hq] at hk
            exact good_rec (HLK.out.trans hk) (by rw [HPE.out]; exact hpz)
          · rw [show lkM x rc (q :: h) = none from if_neg hq] at hk
            exact good_lk (HLK.out.trans hk)
      · exact good_lk (HLK.out.trans hk))
    go_wp2_with (with_reducible show wpList _ _ _ ({ dst := _, op := Op.store 30 _ _, type := _, pos := _, after := _, guard := _ } :: _) _ _; refine Shut.out ?_)
    show wpList _ _ _ _ _ _
    refine wpList_store_at rfl _ _ _ rfl bR HA4.out z3L rfl rfl rfl (by kernel_rfl) (by kernel_rfl) fun w5 hA5 hg5 => ?_
    have HU5 := Hid.of (HU4.out.by hg5 (fun g hg => by have e : bR = g := Option.some.inj hg; omega))
    have HA5 := Hid.of hA5
    clear hA5 hg5
    simp only [Act.put]
    go_wp2
    refine bodyPost_ret (result_cell_tmp Tryz.results6 _ _ bR z3L _ rfl rfl HA5.out.range Tryz.underlying30 rfl infoLk) rfl ?_
    exact ⟨HU5.out, .inr ⟨HNO.out, rfl⟩⟩
  subst hpz
  have HK4 := Hid.of (show lk3 x y = lkM x rc r from by
    rcases HK3.out with hk | ⟨rfl, hk⟩
    · exact hk
    · exact absurd HPE.out prc_nil)
  clear HK3
  obtain ⟨a5, n5, c5, rfl⟩ : ∃ a n c, v5 = .slice a n c := by
    obtain ⟨a, c, e, _⟩ := HR4.out
    exact ⟨_, _, _, e⟩
  have hc2 := hcs W4
  go_wp2_with fail
  change Calls _ _ _ (W4.alloc (.cells #[.int .u8 10] 5 (1, 2))) _
  have HSP := Hid.of (sep_mk W4)
  have hu5 := (Up.refl W4).alloc (.cells #[.int .u8 10] 5 (1, 2))
  have H95 := Hid.of (H94.out.up hu5)
  have HR5 := Hid.of (HR4.out.up hu5)
  have HU5 := Hid.of (HU4.out.trans hu5)
  have HA5 := Hid.of (HA4.out.up hu5)
  have HLT5 := Hid.of (Nat.lt_of_lt_of_le HLT4.out hu5.size)
  clear hc2 hu5 H94 HR4 HU4 HA4 HLT4
  generalize W4.alloc (.cells #[.int .u8 10] 5 (1, 2)) = W5 at *
  refine (bCutPrefix_walk W5 HR5.out HSP.out).mono ?_
  rintro e W6 ⟨rfl, hC⟩
  rcases hC with ⟨m, v10, rfl, rfl, h10⟩ | ⟨hb, v10, rfl⟩
  case inr =>
    dsimp only
    have HNO := Hid.of (show ¬ ∃ n rc m, GOOD l n rc m from by
      refine good_lk (HLK.out.trans (HK4.out.trans ?_))
      cases r with
      | nil => rfl
      | cons q h =>
        have hq : ¬ q = 10 := beq_eq_false_iff_ne.1 (show (q == 10) = false from hb)
        exact if_neg hq)
    go_wp2_with (with_reducible show wpList _ _ _ ({ dst := _, op := Op.store 30 _ _, type := _, pos := _, after := _, guard := _ } :: _) _ _; refine Shut.out ?_)
    show wpList _ _ _ _ _ _
    refine wpList_store_at rfl _ _ _ rfl bR HA5.out z3L rfl rfl rfl (by kernel_rfl) (by kernel_rfl) fun w5 hA5 hg5 => ?_
    have HU5 := Hid.of (HU5.out.by hg5 (fun g hg => by have e : bR = g := Option.some.inj hg; omega))
    have HA5 := Hid.of hA5
    clear hA5 hg5
    simp only [Act.put]
    go_wp2
    refine bodyPost_ret (result_cell_tmp Tryz.results6 _ _ bR z3L _ rfl rfl HA5.out.range Tryz.underlying30 rfl infoLk) rfl ?_
    exact ⟨HU5.out, .inr ⟨HNO.out, rfl⟩⟩
  have HK5 := Hid.of (show lk l = some (x, rc, m) from HLK.out.trans (HK4.out.trans (show lkM x rc (10 :: m) = some (x, rc, m) from by simp [lkM])))
  have HML0 := Hid.of (show m.length ≤ 1048576 by rw [List.length_cons] at hrl2; omega)
  have H10a := Hid.of h10
  clear h10 HK4 HLK HR5 HSP hrl2
  dsimp only
  go_wp2_with fail
  refine (Split_walkB v10 m W6 H10a.out (HT.out.up HU5.out) (WhiteTab_up HW.out HU5.out)).mono ?_
  rintro e W ⟨t, sv, ss, se, rfl, hr, _, u7⟩
  have H9 := Hid.of (H95.out.up u7)
  have H10 := Hid.of (H10a.out.up u7)
  have HUW := Hid.of (HU5.out.trans u7)
  have HA := Hid.of (HA5.out.up u7)
  have HLT := Hid.of (Nat.lt_of_lt_of_le HLT5.out u7.size)
  clear u7 H95 H10a HU5 HA5 HLT5
  dsimp only
  have hor : (se ≠ 0 ∧ ¬ (m.length ≤ 65536 ∧ ∃ t ss, Spl m t ss)) ∨ (se = 0 ∧ (m.length ≤ 65536 ∧ ∃ t ss, Spl m t ss)) := by
    rcases hr with ⟨rfl, h⟩ | ⟨rfl, h, hn⟩ | ⟨rfl, h, hy⟩
    · exact .inl ⟨by decide, fun hb => by have := hb.1; omega⟩
    · exact .inl ⟨by decide, fun hb => hn hb.2⟩
    · exact .inr ⟨rfl, h, _, _, hy⟩
  clear hr
  rcases hor with ⟨hse, hno⟩ | ⟨rfl, hyes⟩
  case inl =>
    have HNO := Hid.of (show ¬ ∃ n rc m, GOOD l n rc m from by
      exact good_note HK5.out hno)
    clear hno
    go_wp2_with (with_reducible show wpList _ _ _ ({ dst := _, op := Op.store 30 _ _, type := _, pos := _, after := _, guard := _ } :: _) _ _; refine Shut.out ?_)
    show wpList _ _ _ _ _ _
    refine wpList_store_at rfl _ _ _ rfl bR HA.out z3L rfl rfl rfl (by kernel_rfl) (by kernel_rfl) fun w5 hA5 hg5 => ?_
    have HU5 := Hid.of (HUW.out.by hg5 (fun g hg => by have e : bR = g := Option.some.inj hg; omega))
    have HA5 := Hid.of hA5
    clear hA5 hg5
    simp only [Act.put]
    go_wp2
    refine bodyPost_ret (result_cell_tmp Tryz.results6 _ _ bR z3L _ rfl rfl HA5.out.range Tryz.underlying30 rfl infoLk) rfl ?_
    exact ⟨HU5.out, .inr ⟨HNO.out, rfl⟩⟩
  case inr =>
      have HGOOD := Hid.of (show GOOD l n rc m from ⟨x, HK5.out, HPR.out, HPE.out, hyes.1, hyes.2⟩)
      have HNE := Hid.of (show m ≠ [] from by
        obtain ⟨_, t, ss, i, hb, _⟩ := hyes
        rintro rfl
        simp [bk] at hb)
      have HML := HML0
      have HN9 := Hid.of (show ∀ g, v9.ownBlock = some g → g ≠ bR from fun g hg => by
        have h1 := HB9.out g hg
        obtain ⟨a', c', e, _, hd⟩ := HS.out
        rcases hd with h | ⟨b, off, e2, hb, _⟩
        · exfalso
          obtain ⟨num, hlk, _⟩ := HGOOD.out
          rw [h] at hlk
          simp [lk, cu1] at hlk
        · injection e with e3
          rw [e3, e2] at h1
          have h4 : b = g := Option.some.inj h1
          have h5 := HBR.out
          omega)
      clear hyes
      go_wp2
      refine wp_region_held_drew (S := fun w2 => Up w w2 ∧ Sl w2 v9 rc) (by kernel_rfl) (⟨HUW.out.drew, H9.out.up (Up.refl W).drew⟩) (fun hS => ?_)
      refine wpAnyH_take (i := 0) (oi := { dst := some 65, op := Go.Op.move (Go.Operand.tmp 7), type := 2, pos := "lookup.go:44", after := #[], guard := none }) (v := .int .i64 n) rfl (by kernel_rfl) (by kernel_rfl) (by kernel_rfl) (fun _ _ _ h => h) (Or.inl ⟨by kernel_rfl, ?_⟩) hS ?_
      · intro w5 hSw
        clear hSw hS
        go_simp
      simp only [Act.put, List.setIfInBounds_toArray, List.set_cons_zero, List.set_cons_succ]
      refine wpAnyH_take (i := 1) (oi := { dst := some 66, op := Go.Op.move (Go.Operand.tmp 9), type := 22, pos := "lookup.go:44", after := #[], guard := none }) (v := v9) rfl (by kernel_rfl) (by kernel_rfl) (by kernel_rfl) (fun _ _ _ h => h) (Or.inl ⟨by kernel_rfl, ?_⟩) hS ?_
      · intro w5 hSw
        clear hSw hS
        go_simp
      simp only [Act.put, List.setIfInBounds_toArray, List.set_cons_zero, List.set_cons_succ]
      refine wpAnyH_take (i := 2) (oi := { dst := some 67, op := Go.Op.convert 22 9 (Go.Operand.tmp 66), type := 9, pos := "lookup.go:44", after := #[{ on := 1, ground := Go.Ground.data }], guard := none }) (v := .string sR) rfl (by kernel_rfl) (by kernel_rfl) (by kernel_rfl) (fun _ _ _ h => h) (Or.inl ⟨by kernel_rfl, ?_⟩) hS ?_
      · intro w5 hSw
        have hcv := conv_sl hSw.2
        rw [HRC.out] at hcv
        clear hSw hS
        go_simp
      simp only [Act.put, List.setIfInBounds_toArray, List.set_cons_zero, List.set_cons_succ]
      refine wpAnyH_take (i := 3) (oi := { dst := some 68, op := Go.Op.move (Go.Operand.tmp 10), type := 22, pos := "lookup.go:44", after := #[], guard := none }) (v := v10) rfl (by kernel_rfl) (by kernel_rfl) (by kernel_rfl) (fun _ _ _ h => h) (Or.inl ⟨by kernel_rfl, ?_⟩) hS ?_
      · intro w5 hSw
        clear hSw hS
        go_simp
      simp only [Act.put, List.setIfInBounds_toArray, List.set_cons_zero, List.set_cons_succ]
      refine wpAnyH_ready (rs := [4]) (by kernel_rfl) (by simp) ?_
      refine AllReadyH.cons (o := { dst := some 69, op := Go.Op.call { callee := Go.Callee.value (Go.Operand.func 17), args := #[Go.Operand.tmp 68], argTypes := #[22] }, type := 22, pos := "lookup.go:44", after := #[{ on := 3, ground := Go.Ground.data }], guard := none }) rfl (fun K hK => ?_) AllReadyH.nil
      rw [if_pos (by kernel_rfl)]
      go_simp
      refine (bClone_walk v10 m W.drew (H10.out.up (Up.refl W).drew) HNE.out HML.out).mono ?_
      rintro e w5 ⟨v5, rfl, s5, u5⟩
      have HNB := Hid.of (show ∀ g, v5.ownBlock = some g → g ≠ bR from fun g hg => by
        obtain ⟨g2, _, _, _, e2, h2, _⟩ := s5
        rw [e2] at hg
        have e3 : g2 = g := Option.some.inj hg
        have h3 : W.heap.size ≤ g2 := h2
        have h4 := HLT.out
        omega)
      have H5 := Hid.of (And.intro s5.sl (HA.out.up ((Up.refl W).drew.trans u5)))
      have HU5 := Hid.of (HUW.out.trans ((Up.refl W).drew.trans u5))
      have H95 := Hid.of (H9.out.up ((Up.refl W).drew.trans u5))
      clear s5 u5
      obtain ⟨a5, n5, c5, rfl⟩ : ∃ a n c, v5 = .slice a n c := by
        obtain ⟨a, c, e, _⟩ := H5.out.1
        exact ⟨_, _, _, e⟩
      dsimp only
      refine hK.out _ _ ⟨HU5.out, H95.out⟩ (fun hS1 => ?_)
      clear hK
      refine wpAnyH_take (i := 5) (oi := { dst := some 70, op := Go.Op.build 30 #[(0, Go.Operand.tmp 65), (1, Go.Operand.tmp 67), (2, Go.Operand.tmp 69)], type := 30, pos := "lookup.go:44", after := #[{ on := 0, ground := Go.Ground.data }, { on := 2, ground := Go.Ground.data }, { on := 4, ground := Go.Ground.data }], guard := none }) (v := .agg #[.int .i64 n, .string sR, .slice a5 n5 c5]) rfl (by kernel_rfl) (by kernel_rfl) (by kernel_rfl) (fun _ _ _ h => h) (Or.inl ⟨by kernel_rfl, ?_⟩) hS1 ?_
      · intro w5 hSw
        clear hSw hS1
        go_simp
      simp only [Act.put, List.setIfInBounds_toArray, List.set_cons_zero, List.set_cons_succ]
      refine wpAnyH_ready (rs := [6]) (by kernel_rfl) (by simp) ?_
      refine AllReadyH.cons (o := { dst := none, op := Go.Op.store 30 (Go.Operand.tmp 2) (Go.Operand.tmp 70), type := 0, pos := "lookup.go:44", after := #[{ on := 5, ground := Go.Ground.data }, { on := 4, ground := Go.Ground.chain }, { on := 0, ground := Go.Ground.phase }, { on := 1, ground := Go.Ground.phase }, { on := 2, ground := Go.Ground.phase }, { on := 3, ground := Go.Ground.phase }, { on := 4, ground := Go.Ground.phase }, { on := 5, ground := Go.Ground.phase }], guard := none }) rfl (fun K hK => ?_) AllReadyH.nil
      rw [if_pos (by kernel_rfl)]
      refine wp_store_mid _ _ _ rfl bR 0 (#[.int .i64 n, .string sR, .slice a5 n5 c5] : Array Value) rfl rfl (H5.out.2.there) (by kernel_rfl) (by kernel_rfl) ?_
      simp only [Act.put]
      have HFI := Hid.of (And.intro (H5.out.2.sets (vs := [.int .i64 n, .string sR, .slice a5 n5 c5]) rfl) (grown_sets bR [.int .i64 n, .string sR, .slice a5 n5 c5] 0 w5))
      have HUF := Hid.of (HU5.out.by HFI.out.2 (fun g hg => by have e : bR = g := Option.some.inj hg; rw [← e]; exact HBR.out))
      have HSF := Hid.of (Sl.grow H5.out.1 HFI.out.2 HNB.out)
      refine hK.out _ _ ⟨HUF.out, Sl.grow H95.out HFI.out.2 HN9.out⟩ (fun hS9 => ?_)
      clear hK
      refine wpAnyH_take (i := 7) (oi := { dst := some 3, op := Go.Op.assign (Go.Operand.const (Go.Value.bool true)), type := 4, pos := "lookup.go:44", after := #[{ on := 6, ground := Go.Ground.chain }, { on := 0, ground := Go.Ground.phase }, { on := 1, ground := Go.Ground.phase }, { on := 2, ground := Go.Ground.phase }, { on := 3, ground := Go.Ground.phase }, { on := 4, ground := Go.Ground.phase }, { on := 5, ground := Go.Ground.phase }, { on := 6, ground := Go.Ground.phase }], guard := none }) (v := .bool true) rfl (by kernel_rfl) (by kernel_rfl) (by kernel_rfl) (fun _ _ _ h => h) (Or.inl ⟨by kernel_rfl, ?_⟩) hS9 ?_
      · intro w5 hSw
        clear hSw hS9
        go_simp
      simp only [Act.put, List.setIfInBounds_toArray, List.set_cons_zero, List.set_cons_succ]
      refine wpAnyH_done (by kernel_rfl) ?_ _
      clear hS9
      go_wp2
      refine bodyPost_ret (result_cell_tmp Tryz.results6 _ _ bR [.int .i64 n, .string sR, .slice a5 n5 c5] _ rfl rfl HFI.out.1.range Tryz.underlying30 rfl infoLk) rfl ?_
      exact ⟨HUF.out, .inl ⟨n, rc, m, _, HGOOD.out, by rw [HRS.out]; rfl, HSF.out⟩⟩
end Go.Proofs.YtaphjbcnnkoffaaGreatDoor
namespace Go.Proofs.YtaphjbcnnkoffaaGreatDoor
open Go.RowKit TextNum

def slenR : Value → Nat
  | .slice _ n _ => n
  | _ => 0
/-- what the first loop keeps -/
def JF (M m : Nat) (back : List UInt8) : Prop := (back ≠ [] ∧ m = 0 ∧ Go.Lib.decDigits M = back.reverse) ∨ ((back = [] ∨ m ≠ 0) ∧ Go.Lib.decDigits M = Go.Lib.decDigits m ++ back.reverse)
theorem JF.step {M m : Nat} {back : List UInt8} (h : JF M m back) (hb : back = [] ∨ m ≠ 0) : JF M (m / 10) (back ++ [UInt8.ofNat (48 + m % 10)]) := by
  rcases h with ⟨h1, h2, _⟩ | ⟨_, h⟩
  · rcases hb with hb | hb
    · exact absurd hb h1
    · exact absurd h2 hb
  · by_cases hm : m < 10
    · refine .inl ⟨by simp, by omega, ?_⟩
      rw [h, Go.Lib.decDigits_one hm, Nat.mod_eq_of_lt hm]; simp
    · refine .inr ⟨.inr (by omega), ?_⟩
      rw [h, Go.Lib.decDigits, dif_neg hm]; simp
theorem JF.len {M m : Nat} {back : List UInt8} (h : JF M m back) : back.length ≤ (Go.Lib.decDigits M).length := by
  rcases h with ⟨_, _, h⟩ | ⟨_, h⟩ <;> rw [h] <;> simp
theorem JF.end' {M : Nat} {back : List UInt8} (h : JF M 0 back) (hb : back ≠ []) : Go.Lib.decDigits M = back.reverse := by
  rcases h with ⟨_, _, h⟩ | ⟨h1, _⟩
  · exact h
  · rcases h1 with h1 | h1
    · exact absurd h1 hb
    · exact absurd rfl h1
theorem dig_len {M : Nat} (h : M ≤ 9223372036854775808) : (Go.Lib.decDigits M).length ≤ 20 := by
  rcases Nat.lt_or_ge M 9223372036854775808 with h1 | h1
  · have := (itoa_len (M : Int) (by omega) (by omega)).1
    rw [itoa_nat] at this; exact this
  · obtain rfl : M = 9223372036854775808 := by omega
    have := (itoa_len (-9223372036854775808) (by omega) (by omega)).1
    simp [Go.Lib.itoa] at this; omega
theorem rev_take {l : List UInt8} {i : Nat} (h : i < l.length) : (l.drop (i + 1)).reverse ++ [l[i]] = (l.drop i).reverse := by
  rw [List.drop_eq_getElem_cons h, List.reverse_cons]

set_option maxRecDepth 100000 in
set_option maxHeartbeats 1000000 in
theorem RFormat_pos (n : Int) (h0 : -9223372036854775808 ≤ n) (h1 : n ≤ 9223372036854775807) (hn : 0 < n) (w : World) :
    Calls Tryz.prog 18 #[.int .i64 n] w fun e w' => e = .returned (vs (Go.Lib.itoa n)) ∧ Up w w' := by
  obtain ⟨M, hM⟩ : ∃ M : Nat, n = (M : Int) := ⟨n.toNat, by omega⟩
  have HE := Hid.of (show Go.Lib.itoa n = Go.Lib.decDigits M by rw [hM]; exact itoa_nat M)
  have hMb : M ≤ 9223372036854775808 := by omega
  have HM := Hid.of (show -n = -(M : Int) by omega)
  have hnn : ¬ n < 0 := by omega
  clear hM
  go_enter Tryz.func18, Tryz.ntmps18
  go_wp2
  go_loopw [3, 4] (fun v3 v4 wr => ∃ (z : Int) (m : Nat) (back : List UInt8), v3 = .int .i64 z ∧ -9223372036854775808 ≤ z ∧ z ≤ 0 ∧ slenR v4 = back.length ∧ Hid (z = -(m : Int)) ∧ Hid (JF M m back ∧ Own wr w.heap.size v4 back ∧ Up w wr)) (fun v3 v4 _ => 2 * (intOf v3).natAbs + (1 - slenR v4))
  case atStart => exact ⟨-n, M, [], rfl, by omega, by omega, rfl, HM.out, .inr ⟨.inl rfl, by simp⟩, own_nil _ _, Up.refl _⟩
  case round =>
    obtain ⟨z, m, back, rfl, hz0, hz1, hsl, hzm, hI⟩ := hrel
    obtain ⟨a4, c4, rfl⟩ := hI.out.2.1.len
    have hlen : back.length ≤ 20 := Nat.le_trans hI.out.1.len (dig_len hMb)
    clear hsl
    by_cases hx : back = [] ∨ m ≠ 0
    · have hd : m % 10 < 10 := Nat.mod_lt _ (by decide)
      have hr : z.tmod 10 = -((m % 10 : Nat) : Int) := by rw [hzm.out, Int.neg_tmod, Int.tmod_eq_emod_of_nonneg (by omega)]; rfl
      have hq : z.tdiv 10 = -((m / 10 : Nat) : Int) := by rw [hzm.out, Int.neg_tdiv, Int.tdiv_eq_ediv_of_nonneg (by omega)]; rfl
      have HS := Hid.of (hI.out.1.step hx)
      have HW := Hid.of (show (back.length = 0 → 2 * (m / 10) < 2 * m + 1) ∧ (back.length ≠ 0 → 2 * (m / 10) < 2 * m) from ⟨fun _ => by omega, fun hb => by
        rcases hx with h | h
        · subst h; simp at hb
        · omega⟩)
      have HMZ := Hid.of (show z.natAbs = m by have := hzm.out; omega)
      have hzb : (m / 10 : Nat) ≤ 922337203685477580 := by have := hzm.out; omega
      obtain ⟨x, hxx⟩ : ∃ x : UInt8, x = UInt8.ofNat (48 + m % 10) := ⟨_, rfl⟩
      have hxn : 48 + ((m % 10 : Nat) : Int) = (x.toNat : Int) := by rw [hxx, dig_toNat hd]; omega
      rw [← hxx] at HS
      clear hxx
      have hxl : x.toNat < 256 := x.toNat_lt
      have hcond : ((back.length : Int) == 0) = true ∨ (((back.length : Int) == 0) = false ∧ (z != 0) = true) := by
        by_cases hb : back = []
        · left; subst hb; rfl
        · right
          have : 0 < back.length := List.length_pos_iff.2 hb
          have hm := hx.resolve_left hb
          have := hzm.out
          refine ⟨?_, ?_⟩
          · simp; omega
          · simp; omega
      clear hx hzm
      generalize m % 10 = d at *
      generalize m / 10 = m' at *
      rcases hcond with hc1 | ⟨hc1, hc2⟩
      ·
        go_wp2_with (with_reducible show wpList _ _ _ ({ dst := _, op := Op.call { callee := Callee.builtin Builtin.append, args := _, argTypes := _ }, type := _, pos := _, after := _, guard := _ } :: _) _ _; refine Shut.out ?_)
        show wpList _ _ _ _ _ _

        refine wpList_app1 rfl _ _ rfl w.heap.size _ back [x] rfl (by exact hI.out.2.1) 1 rfl (by simp; omega) hI.out.2.2.size ?_
        intro v' w2 h2 b2
        have H2 := Hid.of (And.intro h2 (hI.out.2.2.step (Nat.le_refl _) b2))
        clear h2 b2
        simp only [Act.put, List.setIfInBounds_toArray, List.set_cons_zero, List.set_cons_succ]
        go_wp2
        go_roundw
        case rel => exact ⟨-(m' : Int), m', back ++ [x], rfl, by omega, by omega, by obtain ⟨_, _, e⟩ := H2.out.1.len; rw [e]; rfl, rfl, HS.out, H2.out.1, H2.out.2⟩
        case measure =>
          have hv : ∃ aa cc, v' = .slice aa (back ++ [x]).length cc := H2.out.1.len
          obtain ⟨aa, cc, rfl⟩ := hv
          simp only [intOf, slenR, HMZ.out, List.length_append, List.length_cons, List.length_nil]
          by_cases hb : back.length = 0
          · have := HW.out.1 hb; omega
          · have := HW.out.2 hb; omega
      ·
        go_wp2_with (with_reducible show wpList _ _ _ ({ dst := _, op := Op.call { callee := Callee.builtin Builtin.append, args := _, argTypes := _ }, type := _, pos := _, after := _, guard := _ } :: _) _ _; refine Shut.out ?_)
        show wpList _ _ _ _ _ _

        refine wpList_app1 rfl _ _ rfl w.heap.size _ back [x] rfl (by exact hI.out.2.1) 1 rfl (by simp; omega) hI.out.2.2.size ?_
        intro v' w2 h2 b2
        have H2 := Hid.of (And.intro h2 (hI.out.2.2.step (Nat.le_refl _) b2))
        clear h2 b2
        simp only [Act.put, List.setIfInBounds_toArray, List.set_cons_zero, List.set_cons_succ]
        go_wp2
        go_roundw
        case rel => exact ⟨-(m' : Int), m', back ++ [x], rfl, by omega, by omega, by obtain ⟨_, _, e⟩ := H2.out.1.len; rw [e]; rfl, rfl, HS.out, H2.out.1, H2.out.2⟩
        case measure =>
          have hv : ∃ aa cc, v' = .slice aa (back ++ [x]).length cc := H2.out.1.len
          obtain ⟨aa, cc, rfl⟩ := hv
          simp only [intOf, slenR, HMZ.out, List.length_append, List.length_cons, List.length_nil]
          by_cases hb : back.length = 0
          · have := HW.out.1 hb; omega
          · have := HW.out.2 hb; omega
    · have hx1 : back ≠ [] := fun h => hx (.inl h)
      have hx2 : m = 0 := by
        rcases Nat.eq_zero_or_pos m with h | h
        · exact h
        · exact absurd (Or.inr (by omega)) hx
      subst hx2
      obtain rfl : z = 0 := by have := hzm.out; omega
      have HD := Hid.of (hI.out.1.end' hx1)
      have hp : 0 < back.length := List.length_pos_iff.2 hx1
      have hc1 : ((back.length : Int) == 0) = false := by simp; omega
      clear hx hx1 hzm
      obtain ⟨ab, cb', esl, hcap, hcel⟩ := hI.out.2.1.sl
      cases esl
      obtain ⟨wb, hwb⟩ : ∃ wb, wb = wr := ⟨_, rfl⟩
      subst hwb
      rcases hcel with rfl | ⟨b, off, rfl, hb, hcel⟩
      · simp at hp
      go_wp2
      go_loopw [5, 6] (fun v5 v6 ws => ∃ i : Nat, v6 = .int .i64 ((i : Int) - 1) ∧ i ≤ back.length ∧ Hid (Own ws wb.heap.size v5 ((back.drop i).reverse) ∧ Below wb.heap.size wb ws)) (fun _ v6 _ => ((intOf v6) + 1).toNat)
      case atStart => exact ⟨back.length, by go_num, Nat.le_refl _, by rw [List.drop_length]; exact ⟨own_nil _ _, Below.refl _ _⟩⟩
      case round =>
        obtain ⟨ws, hws⟩ : ∃ ws, ws = wr := ⟨_, rfl⟩
        subst hws
        obtain ⟨i, rfl, hi, hI2⟩ := hrel
        by_cases hi0 : i = 0
        · subst hi0
          have hcv := conv_sl (Own.sl hI2.out.1)
          rw [List.drop_zero, ← HD.out] at hcv
          go_wp2
          go_ret
          rw [HE.out]
          exact ⟨rfl, hI.out.2.2.step hI.out.2.2.size hI2.out.2⟩
        · obtain ⟨k, rfl⟩ : ∃ k, i = k + 1 := ⟨i - 1, by omega⟩
          have hk : k < back.length := by omega
          have hcx : ws.cell? ⟨b, off + k, none⟩ = some (.int .u8 (back[k].toNat : Int)) := Up.cell hI2.out.2 (hcel k hk)
          have HV := Hid.of (rev_take hk)
          have ek : (((k + 1 : Nat) : Int) - 1) = (k : Int) := by omega
          rw [ek]
          clear hi0 ek
          generalize back[k] = x at *
          go_wp2_with (with_reducible show wpList _ _ _ ({ dst := _, op := Op.call { callee := Callee.builtin Builtin.append, args := _, argTypes := _ }, type := _, pos := _, after := _, guard := _ } :: _) _ _; refine Shut.out ?_)
          show wpList _ _ _ _ _ _
          refine wpList_app1 rfl _ _ rfl wb.heap.size _ ((back.drop (k + 1)).reverse) [x] rfl (by exact hI2.out.1) 1 rfl (by simp; omega) hI2.out.2.size ?_
          intro v' w3 h3 b3
          have H3 := Hid.of (And.intro h3 (hI2.out.2.trans b3))
          clear h3 b3
          simp only [Act.put, List.setIfInBounds_toArray, List.set_cons_zero, List.set_cons_succ]
          go_wp2
          go_roundw
          case rel => exact ⟨k, by go_num, by omega, by have := H3.out; rwa [HV.out] at this⟩
          case measure => simp [intOf]

set_option maxRecDepth 100000 in
set_option maxHeartbeats 1000000 in
theorem RFormat_zer (n : Int) (h0 : -9223372036854775808 ≤ n) (h1 : n ≤ 9223372036854775807) (hn : n = 0) (w : World) :
    Calls Tryz.prog 18 #[.int .i64 n] w fun e w' => e = .returned (vs (Go.Lib.itoa n)) ∧ Up w w' := by
  subst hn
  obtain ⟨M, hM⟩ : ∃ M : Nat, M = 0 := ⟨0, rfl⟩
  have HE := Hid.of (show Go.Lib.itoa 0 = Go.Lib.decDigits M by subst hM; rfl)
  have hMb : M ≤ 9223372036854775808 := by omega
  have HM := Hid.of (show (0 : Int) = -(M : Int) by omega)
  clear hM
  go_enter Tryz.func18, Tryz.ntmps18
  go_wp2
  go_loopw [3, 4] (fun v3 v4 wr => ∃ (z : Int) (m : Nat) (back : List UInt8), v3 = .int .i64 z ∧ -9223372036854775808 ≤ z ∧ z ≤ 0 ∧ slenR v4 = back.length ∧ Hid (z = -(m : Int)) ∧ Hid (JF M m back ∧ Own wr w.heap.size v4 back ∧ Up w wr)) (fun v3 v4 _ => 2 * (intOf v3).natAbs + (1 - slenR v4))
  case atStart => exact ⟨0, M, [], rfl, by omega, by omega, rfl, HM.out, .inr ⟨.inl rfl, by simp⟩, own_nil _ _, Up.refl _⟩
  case round =>
    obtain ⟨z, m, back, rfl, hz0, hz1, hsl, hzm, hI⟩ := hrel
    obtain ⟨a4, c4, rfl⟩ := hI.out.2.1.len
    have hlen : back.length ≤ 20 := Nat.le_trans hI.out.1.len (dig_len hMb)
    clear hsl
    by_cases hx : back = [] ∨ m ≠ 0
    · have hd : m % 10 < 10 := Nat.mod_lt _ (by decide)
      have hr : z.tmod 10 = -((m % 10 : Nat) : Int) := by rw [hzm.out, Int.neg_tmod, Int.tmod_eq_emod_of_nonneg (by omega)]; rfl
      have hq : z.tdiv 10 = -((m / 10 : Nat) : Int) := by rw [hzm.out, Int.neg_tdiv, Int.tdiv_eq_ediv_of_nonneg (by omega)]; rfl
      have HS := Hid.of (hI.out.1.step hx)
      have HW := Hid.of (show (back.length = 0 → 2 * (m / 10) < 2 * m + 1) ∧ (back.length ≠ 0 → 2 * (m / 10) < 2 * m) from ⟨fun _ => by omega, fun hb => by
        rcases hx with h | h
        · subst h; simp at hb
        · omega⟩)
      have HMZ := Hid.of (show z.natAbs = m by have := hzm.out; omega)
      have hzb : (m / 10 : Nat) ≤ 922337203685477580 := by have := hzm.out; omega
      obtain ⟨x, hxx⟩ : ∃ x : UInt8, x = UInt8.ofNat (48 + m % 10) := ⟨_, rfl⟩
      have hxn : 48 + ((m % 10 : Nat) : Int) = (x.toNat : Int) := by rw [hxx, dig_toNat hd]; omega
      rw [← hxx] at HS
      clear hxx
      have hxl : x.toNat < 256 := x.toNat_lt
      have hcond : ((back.length : Int) == 0) = true ∨ (((back.length : Int) == 0) = false ∧ (z != 0) = true) := by
        by_cases hb : back = []
        · left; subst hb; rfl
        · right
          have : 0 < back.length := List.length_pos_iff.2 hb
          have hm := hx.resolve_left hb
          have := hzm.out
          refine ⟨?_, ?_⟩
          · simp; omega
          · simp; omega
      clear hx hzm
      generalize m % 10 = d at *
      generalize m / 10 = m' at *
      rcases hcond with hc1 | ⟨hc1, hc2⟩
      ·
        go_wp2_with (with_reducible show wpList _ _ _ ({ dst := _, op := Op.call { callee := Callee.builtin Builtin.append, args := _, argTypes := _ }, type := _, pos := _, after := _, guard := _ } :: _) _ _; refine Shut.out ?_)
        show wpList _ _ _ _ _ _

        refine wpList_app1 rfl _ _ rfl w.heap.size _ back [x] rfl (by exact hI.out.2.1) 1 rfl (by simp; omega) hI.out.2.2.size ?_
        intro v' w2 h2 b2
        have H2 := Hid.of (And.intro h2 (hI.out.2.2.step (Nat.le_refl _) b2))
        clear h2 b2
        simp only [Act.put, List.setIfInBounds_toArray, List.set_cons_zero, List.set_cons_succ]
        go_wp2
        go_roundw
        case rel => exact ⟨-(m' : Int), m', back ++ [x], rfl, by omega, by omega, by obtain ⟨_, _, e⟩ := H2.out.1.len; rw [e]; rfl, rfl, HS.out, H2.out.1, H2.out.2⟩
        case measure =>
          have hv : ∃ aa cc, v' = .slice aa (back ++ [x]).length cc := H2.out.1.len
          obtain ⟨aa, cc, rfl⟩ := hv
          simp only [intOf, slenR, HMZ.out, List.length_append, List.length_cons, List.length_nil]
          by_cases hb : back.length = 0
          · have := HW.out.1 hb; omega
          · have := HW.out.2 hb; omega
      ·
        go_wp2_with (with_reducible show wpList _ _ _ ({ dst := _, op := Op.call { callee := Callee.builtin Builtin.append, args := _, argTypes := _ }, type := _, pos := _, after := _, guard := _ } :: _) _ _; refine Shut.out ?_)
        show wpList _ _ _ _ _ _

        refine wpList_app1 rfl _ _ rfl w.heap.size _ back [x] rfl (by exact hI.out.2.1) 1 rfl (by simp; omega) hI.out.2.2.size ?_
        intro v' w2 h2 b2
        have H2 := Hid.of (And.intro h2 (hI.out.2.2.step (Nat.le_refl _) b2))
        clear h2 b2
        simp only [Act.put, List.setIfInBounds_toArray, List.set_cons_zero, List.set_cons_succ]
        go_wp2
        go_roundw
        case rel => exact ⟨-(m' : Int), m', back ++ [x], rfl, by omega, by omega, by obtain ⟨_, _, e⟩ := H2.out.1.len; rw [e]; rfl, rfl, HS.out, H2.out.1, H2.out.2⟩
        case measure =>
          have hv : ∃ aa cc, v' = .slice aa (back ++ [x]).length cc := H2.out.1.len
          obtain ⟨aa, cc, rfl⟩ := hv
          simp only [intOf, slenR, HMZ.out, List.length_append, List.length_cons, List.length_nil]
          by_cases hb : back.length = 0
          · have := HW.out.1 hb; omega
          · have := HW.out.2 hb; omega
    · have hx1 : back ≠ [] := fun h => hx (.inl h)
      have hx2 : m = 0 := by
        rcases Nat.eq_zero_or_pos m with h | h
        · exact h
        · exact absurd (Or.inr (by omega)) hx
      subst hx2
      obtain rfl : z = 0 := by have := hzm.out; omega
      have HD := Hid.of (hI.out.1.end' hx1)
      have hp : 0 < back.length := List.length_pos_iff.2 hx1
      have hc1 : ((back.length : Int) == 0) = false := by simp; omega
      clear hx hx1 hzm
      obtain ⟨ab, cb', esl, hcap, hcel⟩ := hI.out.2.1.sl
      cases esl
      obtain ⟨wb, hwb⟩ : ∃ wb, wb = wr := ⟨_, rfl⟩
      subst hwb
      rcases hcel with rfl | ⟨b, off, rfl, hb, hcel⟩
      · simp at hp
      go_wp2
      go_loopw [5, 6] (fun v5 v6 ws => ∃ i : Nat, v6 = .int .i64 ((i : Int) - 1) ∧ i ≤ back.length ∧ Hid (Own ws wb.heap.size v5 ((back.drop i).reverse) ∧ Below wb.heap.size wb ws)) (fun _ v6 _ => ((intOf v6) + 1).toNat)
      case atStart => exact ⟨back.length, by go_num, Nat.le_refl _, by rw [List.drop_length]; exact ⟨own_nil _ _, Below.refl _ _⟩⟩
      case round =>
        obtain ⟨ws, hws⟩ : ∃ ws, ws = wr := ⟨_, rfl⟩
        subst hws
        obtain ⟨i, rfl, hi, hI2⟩ := hrel
        by_cases hi0 : i = 0
        · subst hi0
          have hcv := conv_sl (Own.sl hI2.out.1)
          rw [List.drop_zero, ← HD.out] at hcv
          go_wp2
          go_ret
          rw [HE.out]
          exact ⟨rfl, hI.out.2.2.step hI.out.2.2.size hI2.out.2⟩
        · obtain ⟨k, rfl⟩ : ∃ k, i = k + 1 := ⟨i - 1, by omega⟩
          have hk : k < back.length := by omega
          have hcx : ws.cell? ⟨b, off + k, none⟩ = some (.int .u8 (back[k].toNat : Int)) := Up.cell hI2.out.2 (hcel k hk)
          have HV := Hid.of (rev_take hk)
          have ek : (((k + 1 : Nat) : Int) - 1) = (k : Int) := by omega
          rw [ek]
          clear hi0 ek
          generalize back[k] = x at *
          go_wp2_with (with_reducible show wpList _ _ _ ({ dst := _, op := Op.call { callee := Callee.builtin Builtin.append, args := _, argTypes := _ }, type := _, pos := _, after := _, guard := _ } :: _) _ _; refine Shut.out ?_)
          show wpList _ _ _ _ _ _
          refine wpList_app1 rfl _ _ rfl wb.heap.size _ ((back.drop (k + 1)).reverse) [x] rfl (by exact hI2.out.1) 1 rfl (by simp; omega) hI2.out.2.size ?_
          intro v' w3 h3 b3
          have H3 := Hid.of (And.intro h3 (hI2.out.2.trans b3))
          clear h3 b3
          simp only [Act.put, List.setIfInBounds_toArray, List.set_cons_zero, List.set_cons_succ]
          go_wp2
          go_roundw
          case rel => exact ⟨k, by go_num, by omega, by have := H3.out; rwa [HV.out] at this⟩
          case measure => simp [intOf]

set_option maxRecDepth 100000 in
set_option maxHeartbeats 1000000 in
theorem RFormat_neg (n : Int) (h0 : -9223372036854775808 ≤ n) (h1 : n ≤ 9223372036854775807) (hn : n < 0) (w : World) :
    Calls Tryz.prog 18 #[.int .i64 n] w fun e w' => e = .returned (vs (Go.Lib.itoa n)) ∧ Up w w' := by
  obtain ⟨M, hM⟩ : ∃ M : Nat, M = n.natAbs := ⟨_, rfl⟩
  have HE := Hid.of (show Go.Lib.itoa n = 45 :: Go.Lib.decDigits M by rw [hM]; exact if_pos hn)
  have hMb : M ≤ 9223372036854775808 := by omega
  have HM := Hid.of (show n = -(M : Int) by omega)
  have hnn : ¬ 0 < n := by omega
  clear hM
  go_enter Tryz.func18, Tryz.ntmps18
  go_wp2
  go_loopw [3, 4] (fun v3 v4 wr => ∃ (z : Int) (m : Nat) (back : List UInt8), v3 = .int .i64 z ∧ -9223372036854775808 ≤ z ∧ z ≤ 0 ∧ slenR v4 = back.length ∧ Hid (z = -(m : Int)) ∧ Hid (JF M m back ∧ Own wr w.heap.size v4 back ∧ Up w wr)) (fun v3 v4 _ => 2 * (intOf v3).natAbs + (1 - slenR v4))
  case atStart => exact ⟨n, M, [], rfl, by omega, by omega, rfl, HM.out, .inr ⟨.inl rfl, by simp⟩, own_nil _ _, Up.refl _⟩
  case round =>
    obtain ⟨z, m, back, rfl, hz0, hz1, hsl, hzm, hI⟩ := hrel
    obtain ⟨a4, c4, rfl⟩ := hI.out.2.1.len
    have hlen : back.length ≤ 20 := Nat.le_trans hI.out.1.len (dig_len hMb)
    clear hsl
    by_cases hx : back = [] ∨ m ≠ 0
    · have hd : m % 10 < 10 := Nat.mod_lt _ (by decide)
      have hr : z.tmod 10 = -((m % 10 : Nat) : Int) := by rw [hzm.out, Int.neg_tmod, Int.tmod_eq_emod_of_nonneg (by omega)]; rfl
      have hq : z.tdiv 10 = -((m / 10 : Nat) : Int) := by rw [hzm.out, Int.neg_tdiv, Int.tdiv_eq_ediv_of_nonneg (by omega)]; rfl
      have HS := Hid.of (hI.out.1.step hx)
      have HW := Hid.of (show (back.length = 0 → 2 * (m / 10) < 2 * m + 1) ∧ (back.length ≠ 0 → 2 * (m / 10) < 2 * m) from ⟨fun _ => by omega, fun hb => by
        rcases hx with h | h
        · subst h; simp at hb
        · omega⟩)
      have HMZ := Hid.of (show z.natAbs = m by have := hzm.out; omega)
      have hzb : (m / 10 : Nat) ≤ 922337203685477580 := by have := hzm.out; omega
      obtain ⟨x, hxx⟩ : ∃ x : UInt8, x = UInt8.ofNat (48 + m % 10) := ⟨_, rfl⟩
      have hxn : 48 + ((m % 10 : Nat) : Int) = (x.toNat : Int) := by rw [hxx, dig_toNat hd]; omega
      rw [← hxx] at HS
      clear hxx
      have hxl : x.toNat < 256 := x.toNat_lt
      have hcond : ((back.length : Int) == 0) = true ∨ (((back.length : Int) == 0) = false ∧ (z != 0) = true) := by
        by_cases hb : back = []
        · left; subst hb; rfl
        · right
          have : 0 < back.length := List.length_pos_iff.2 hb
          have hm := hx.resolve_left hb
          have := hzm.out
          refine ⟨?_, ?_⟩
          · simp; omega
          · simp; omega
      clear hx hzm
      generalize m % 10 = d at *
      generalize m / 10 = m' at *
      rcases hcond with hc1 | ⟨hc1, hc2⟩
      ·
        go_wp2_with (with_reducible show wpList _ _ _ ({ dst := _, op := Op.call { callee := Callee.builtin Builtin.append, args := _, argTypes := _ }, type := _, pos := _, after := _, guard := _ } :: _) _ _; refine Shut.out ?_)
        show wpList _ _ _ _ _ _

        refine wpList_app1 rfl _ _ rfl w.heap.size _ back [x] rfl (by exact hI.out.2.1) 1 rfl (by simp; omega) hI.out.2.2.size ?_
        intro v' w2 h2 b2
        have H2 := Hid.of (And.intro h2 (hI.out.2.2.step (Nat.le_refl _) b2))
        clear h2 b2
        simp only [Act.put, List.setIfInBounds_toArray, List.set_cons_zero, List.set_cons_succ]
        go_wp2
        go_roundw
        case rel => exact ⟨-(m' : Int), m', back ++ [x], rfl, by omega, by omega, by obtain ⟨_, _, e⟩ := H2.out.1.len; rw [e]; rfl, rfl, HS.out, H2.out.1, H2.out.2⟩
        case measure =>
          have hv : ∃ aa cc, v' = .slice aa (back ++ [x]).length cc := H2.out.1.len
          obtain ⟨aa, cc, rfl⟩ := hv
          simp only [intOf, slenR, HMZ.out, List.length_append, List.length_cons, List.length_nil]
          by_cases hb : back.length = 0
          · have := HW.out.1 hb; omega
          · have := HW.out.2 hb; omega
      ·
        go_wp2_with (with_reducible show wpList _ _ _ ({ dst := _, op := Op.call { callee := Callee.builtin Builtin.append, args := _, argTypes := _ }, type := _, pos := _, after := _, guard := _ } :: _) _ _; refine Shut.out ?_)
        show wpList _ _ _ _ _ _

        refine wpList_app1 rfl _ _ rfl w.heap.size _ back [x] rfl (by exact hI.out.2.1) 1 rfl (by simp; omega) hI.out.2.2.size ?_
        intro v' w2 h2 b2
        have H2 := Hid.of (And.intro h2 (hI.out.2.2.step (Nat.le_refl _) b2))
        clear h2 b2
        simp only [Act.put, List.setIfInBounds_toArray, List.set_cons_zero, List.set_cons_succ]
        go_wp2
        go_roundw
        case rel => exact ⟨-(m' : Int), m', back ++ [x], rfl, by omega, by omega, by obtain ⟨_, _, e⟩ := H2.out.1.len; rw [e]; rfl, rfl, HS.out, H2.out.1, H2.out.2⟩
        case measure =>
          have hv : ∃ aa cc, v' = .slice aa (back ++ [x]).length cc := H2.out.1.len
          obtain ⟨aa, cc, rfl⟩ := hv
          simp only [intOf, slenR, HMZ.out, List.length_append, List.length_cons, List.length_nil]
          by_cases hb : back.length = 0
          · have := HW.out.1 hb; omega
          · have := HW.out.2 hb; omega
    · have hx1 : back ≠ [] := fun h => hx (.inl h)
      have hx2 : m = 0 := by
        rcases Nat.eq_zero_or_pos m with h | h
        · exact h
        · exact absurd (Or.inr (by omega)) hx
      subst hx2
      obtain rfl : z = 0 := by have := hzm.out; omega
      have HD := Hid.of (hI.out.1.end' hx1)
      have hp : 0 < back.length := List.length_pos_iff.2 hx1
      have hc1 : ((back.length : Int) == 0) = false := by simp; omega
      clear hx hx1 hzm
      obtain ⟨ab, cb', esl, hcap, hcel⟩ := hI.out.2.1.sl
      cases esl
      obtain ⟨wb, hwb⟩ : ∃ wb, wb = wr := ⟨_, rfl⟩
      subst hwb
      rcases hcel with rfl | ⟨b, off, rfl, hb, hcel⟩
      · simp at hp
      go_wp2_with (with_reducible show wpList _ _ _ ({ dst := _, op := Op.call { callee := Callee.builtin Builtin.append, args := _, argTypes := _ }, type := _, pos := _, after := _, guard := _ } :: _) _ _; refine Shut.out ?_)
      show wpList _ _ _ _ _ _
      refine wpList_app1 rfl _ _ rfl wb.heap.size _ [] [45] rfl (by exact own_nil _ _) 1 rfl (by decide) (Nat.le_refl _) ?_
      intro v5 w5 h5 b5
      simp only [Act.put, List.setIfInBounds_toArray, List.set_cons_zero, List.set_cons_succ]
      have H5 := Hid.of (And.intro h5 b5)
      clear h5 b5
      go_wp2
      go_loopw [5, 6] (fun v5 v6 ws => ∃ i : Nat, v6 = .int .i64 ((i : Int) - 1) ∧ i ≤ back.length ∧ Hid (Own ws wb.heap.size v5 (45 :: (back.drop i).reverse) ∧ Below wb.heap.size wb ws)) (fun _ v6 _ => ((intOf v6) + 1).toNat)
      case atStart => exact ⟨back.length, by go_num, Nat.le_refl _, by rw [List.drop_length]; exact ⟨H5.out.1, H5.out.2⟩⟩
      case round =>
        obtain ⟨ws, hws⟩ : ∃ ws, ws = wr := ⟨_, rfl⟩
        subst hws
        obtain ⟨i, rfl, hi, hI2⟩ := hrel
        by_cases hi0 : i = 0
        · subst hi0
          have hcv := conv_sl (Own.sl hI2.out.1)
          rw [List.drop_zero, ← HD.out] at hcv
          go_wp2
          go_ret
          rw [HE.out]
          exact ⟨rfl, hI.out.2.2.step hI.out.2.2.size hI2.out.2⟩
        · obtain ⟨k, rfl⟩ : ∃ k, i = k + 1 := ⟨i - 1, by omega⟩
          have hk : k < back.length := by omega
          have hcx : ws.cell? ⟨b, off + k, none⟩ = some (.int .u8 (back[k].toNat : Int)) := Up.cell hI2.out.2 (hcel k hk)
          have HV := Hid.of (rev_take hk)
          have ek : (((k + 1 : Nat) : Int) - 1) = (k : Int) := by omega
          rw [ek]
          clear hi0 ek
          generalize back[k] = x at *
          go_wp2_with (with_reducible show wpList _ _ _ ({ dst := _, op := Op.call { callee := Callee.builtin Builtin.append, args := _, argTypes := _ }, type := _, pos := _, after := _, guard := _ } :: _) _ _; refine Shut.out ?_)
          show wpList _ _ _ _ _ _
          refine wpList_app1 rfl _ _ rfl wb.heap.size _ (45 :: (back.drop (k + 1)).reverse) [x] rfl (by exact hI2.out.1) 1 rfl (by simp; omega) hI2.out.2.size ?_
          intro v' w3 h3 b3
          have H3 := Hid.of (And.intro h3 (hI2.out.2.trans b3))
          clear h3 b3
          simp only [Act.put, List.setIfInBounds_toArray, List.set_cons_zero, List.set_cons_succ]
          go_wp2
          go_roundw
          case rel => exact ⟨k, by go_num, by omega, by have := H3.out; rwa [List.cons_append, HV.out] at this⟩
          case measure => simp [intOf]

theorem RFormat_walk (n : Int) (h0 : -9223372036854775808 ≤ n) (h1 : n ≤ 9223372036854775807) (w : World) :
    Calls Tryz.prog 18 #[.int .i64 n] w fun e w' => e = .returned (vs (Go.Lib.itoa n)) ∧ Up w w' := by
  by_cases hp : 0 < n
  · exact RFormat_pos n h0 h1 hp w
  · by_cases hz : n = 0
    · exact RFormat_zer n h0 h1 hz w
    · exact RFormat_neg n h0 h1 (by omega) w
end Go.Proofs.YtaphjbcnnkoffaaGreatDoor
namespace TextNum
theorem nvf_lt : ∀ (l m : List UInt8) (a b : Nat), l.all isD = true → l.length = m.length → a < b → nvf a l < nvf b m
  | [], [], _, _, _, _, h => h
  | [], _ :: _, _, _, _, h, _ => by simp at h
  | _ :: _, [], _, _, _, h, _ => by simp at h
  | c :: l, d :: m, a, b, hl, hn, h => by
    rw [nvf_cons, nvf_cons]
    simp only [List.all_cons, Bool.and_eq_true] at hl
    have := isD_iff.1 hl.1
    exact nvf_lt l m _ _ hl.2 (by simpa using hn) (by omega)
theorem nvf_lt2 : ∀ (r m : List UInt8) (a : Nat), m.all isD = true → m.length ≤ r.length → 1 ≤ a → nvf 0 m < nvf a r
  | [], m, a, hm, h, ha => by
    obtain rfl : m = [] := List.eq_nil_of_length_eq_zero (by simpa using h)
    exact ha
  | x :: r, m, a, hm, h, ha => by
    rcases Nat.lt_or_ge m.length (x :: r).length with h1 | h1
    · rw [nvf_cons]
      exact nvf_lt2 r m _ hm (by simp at h1; omega) (by omega)
    · exact nvf_lt m (x :: r) 0 a hm (by omega) (by omega)
theorem nv_longer {l m : List UInt8} (hl : isN l = true) (hm : m.all isD = true) (h : m.length < l.length) (h1 : 1 ≤ m.length) : nv m < nv l := by
  obtain ⟨c, r, rfl, hc⟩ := isN_cons hl
  have hc' := isD_iff.1 hc
  have hh : c ≠ 48 := by
    simp only [isN, Bool.and_eq_true, Bool.or_eq_true, decide_eq_true_eq] at hl
    rcases hl.2 with h2 | h2
    · omega
    · simpa using h2.2
  have h3 : c.toNat ≠ 48 := fun e => hh (by apply UInt8.toNat_inj.1; simpa using e)
  show nvf 0 m < nvf 0 (c :: r)
  rw [nvf_cons]
  exact nvf_lt2 r m _ hm (by simp at h; omega) (by omega)
theorem less_nv : ∀ (l m : List UInt8) (a : Nat), l.all isD = true → m.all isD = true → l.length = m.length → Go.Op.bytesLess l m = decide (nvf a l < nvf a m)
  | [], [], a, _, _, _ => by simp [Go.Op.bytesLess]
  | [], _ :: _, _, _, _, h => by simp at h
  | _ :: _, [], _, _, _, h => by simp at h
  | c :: l, d :: m, a, hl, hm, hn => by
    rw [nvf_cons, nvf_cons, Go.Op.bytesLess]
    simp only [List.all_cons, Bool.and_eq_true] at hl hm
    have h1 := isD_iff.1 hl.1
    have h2 := isD_iff.1 hm.1
    have hn' : l.length = m.length := by simpa using hn
    rcases Nat.lt_trichotomy c.toNat d.toNat with h | h | h
    · have e1 : decide (c < d) = true := by simpa using UInt8.lt_iff_toNat_lt.2 h
      rw [e1, Bool.true_or, decide_eq_true (nvf_lt l m _ _ hl.2 hn' (by omega))]
    · obtain rfl : c = d := UInt8.toNat_inj.1 h
      rw [less_nv l m (10 * a + (c.toNat - 48)) hl.2 hm.2 hn']
      simp
    · have e1 : decide (c < d) = false := by simp only [decide_eq_false_iff_not, UInt8.lt_iff_toNat_lt]; omega
      have e2 : (c == d) = false := by simp; intro e; subst e; omega
      have := nvf_lt m l _ _ hm.2 hn'.symm (show 10 * a + (d.toNat - 48) < 10 * a + (c.toNat - 48) by omega)
      rw [e1, e2, Bool.false_and, Bool.or_false, decide_eq_false (by omega)]
theorem nv_inj {l m : List UInt8} (hl : isN l = true) (hm : isN m = true) (h : nv l = nv m) : l = m := by rw [← dec_nv l hl, ← dec_nv m hm, h]
theorem isN_all {l : List UInt8} (h : isN l = true) : l.all isD = true := by simp only [isN, Bool.and_eq_true] at h; exact h.1
theorem isN_len {l : List UInt8} (h : isN l = true) : 1 ≤ l.length := by obtain ⟨c, r, rfl, _⟩ := isN_cons h; simp
/-- the greater one, as the reference tells it -/
theorem more_nv {l m : List UInt8} (hl : isN l = true) (hm : isN m = true) (hn : l.length = m.length) : (!Go.Op.bytesLess l m && !(l == m)) = decide (nv m < nv l) := by
  rw [less_nv l m 0 (isN_all hl) (isN_all hm) hn]
  show (!decide (nv l < nv m) && !(l == m)) = decide (nv m < nv l)
  rcases Nat.lt_trichotomy (nv l) (nv m) with h | h | h
  · rw [decide_eq_true h, decide_eq_false (by omega)]; rfl
  · rw [nv_inj hl hm h]; simp
  · have : (l == m) = false := by simp; intro e; subst e; omega
    rw [decide_eq_false (by omega), this, decide_eq_true h]; rfl
theorem nv_take (l : List UInt8) (i : Nat) : nv (l.take i) ≤ nv l := by
  have : nv l = nvf (nv (l.take i)) (l.drop i) := by
    conv => lhs; rw [← List.take_append_drop i l]
    simp only [nv, nvf, List.foldl_append]
  rw [this]
  exact nvf_le _ _
end TextNum
namespace Go.Proofs.YtaphjbcnnkoffaaGreatDoor
open Go.RowKit TextNum

set_option maxRecDepth 100000 in
set_option maxHeartbeats 1000000 in
theorem RParse_walk (s : ByteArray) (max : Int) (h0 : -9223372036854775808 ≤ max) (h1 : max ≤ 9223372036854775807) (w : World) :
    Calls Tryz.prog 8 #[.string s, .int .i64 max] w fun e w' => e = .returned (.tuple #[.int .i64 (prs s.data.toList max).1, .int .i64 (prs s.data.toList max).2]) ∧ Up w w' := by
  have HS := Hid.of (Go.Lib.size_eq s)
  go_enter Tryz.func8, Tryz.ntmps8
  by_cases hl : 1048576 < s.size
  · have d1 : (1048576 : Int) < (s.size : Int) := by omega
    go_wp2
    go_ret2
    rw [prs_long (by rw [← HS.out]; exact hl)]
    exact ⟨rfl, Up.refl _⟩
  · have d1 : ¬ (1048576 : Int) < (s.size : Int) := by omega
    have hle : s.size ≤ 1048576 := by omega
    have HN := Hid.of (show ¬ 1048576 < s.data.toList.length by rw [← HS.out]; exact hl)
    clear hl
    by_cases he : s.size = 0
    · have hs : s = ⟨#[]⟩ := by
        obtain ⟨d⟩ := s
        have : d.size = 0 := he
        rw [Array.size_eq_zero_iff] at this
        subst this; rfl
      subst hs
      have HF := Hid.of (show prs (⟨#[]⟩ : ByteArray).data.toList max = (0, 62) from prs_no HN.out (by rfl))
      go_wp2
      go_ret2
      rw [HF.out]
      exact ⟨rfl, Up.refl _⟩
    · have hne : s.toList.isEmpty = false := by
        rw [Go.Lib.toList_data]
        cases hh : s.data.toList with
        | nil => rw [Go.Lib.size_eq, hh] at he; simp at he
        | cons a b => rfl
      go_wp2
      go_loop [6] (fun v6 => ∃ i : Nat, v6 = .int .i64 (i : Int) ∧ i ≤ s.size ∧ Hid ((s.data.toList.take i).all isD = true)) (fun v6 => s.size - (intOf v6).toNat)
      case atStart => exact ⟨0, rfl, by omega, Hid.of (by simp)⟩
      case round =>
        obtain ⟨i, rfl, hi, hI⟩ := hrel
        by_cases hlt : i < s.size
        · have hlt' : (i : Int) < (s.size : Int) := by omega
          have ht : s.data.toList.take (i + 1) = s.data.toList.take i ++ [s[i]] := by rw [sget' s i hlt]; exact take_succ0 (by rw [← HS.out]; exact hlt)
          by_cases hd : isD s[i] = true
          · have hd' := isD_iff.1 hd
            have HN' := Hid.of (show (s.data.toList.take (i + 1)).all isD = true by rw [ht, List.all_append, hI.out]; simp [hd])
            have b1 : ¬ (s[i].toNat : Int) < 48 := by omega
            have b2 : decide ((s[i].toNat : Int) < 48) = false := by simp; omega
            have b3 : decide ((57 : Int) < (s[i].toNat : Int)) = false := by simp; omega
            clear ht hd hd'
            go_wp2
            go_round
            case rel => exact ⟨i + 1, by go_num, by omega, HN'⟩
            case measure => simp [intOf]; omega
          · have hf : isN s.data.toList = false := by
              unfold isN
              have hno : s.data.toList.all isD = false := by
                rw [List.all_eq_false]
                refine ⟨s[i], ?_, hd⟩
                rw [sget' s i hlt]
                exact List.getElem_mem (by rw [← HS.out]; exact hlt)
              rw [hno]; rfl
            have HF := Hid.of (prs_no (max := max) HN.out hf)
            have hd' : s[i].toNat < 48 ∨ 57 < s[i].toNat := by
              rw [isD_iff] at hd; omega
            clear hd hf ht
            rcases hd' with hd' | hd'
            · have b2 : (s[i].toNat : Int) < 48 := by omega
              go_wp2
              go_ret2
              rw [HF.out]
              exact ⟨rfl, Up.refl _⟩
            · have b2 : decide ((s[i].toNat : Int) < 48) = false := by simp; omega
              have b3 : (57 : Int) < (s[i].toNat : Int) := by omega
              go_wp2
              go_ret2
              rw [HF.out]
              exact ⟨rfl, Up.refl _⟩
        · have hie : i = s.size := by omega
          have hall : s.data.toList.all isD = true := by have := hI.out; rwa [hie, HS.out, List.take_length] at this
          have hN : isN s.data.toList = (decide (s.size = 1) || (decide (1 < s.size) && decide (s.data.toList.head? ≠ some 48))) := by
            unfold isN; rw [hall, Bool.true_and, ← Go.Lib.size_eq]
          have HN2 := Hid.of hN
          have HA := Hid.of hall
          clear hN hall hI
          have hp0 : 0 < s.size := by omega
          obtain ⟨r, hr⟩ := head_of' (s := s) hp0
          by_cases hz : s[0].toNat = 48 ∧ 1 < s.size
          · have b1 : (s[0].toNat : Int) = 48 := by omega
            have b1' : ((s[0].toNat : Int) == 48) = true := by simp; omega
            have b2 : (1 : Int) < (s.size : Int) := by omega
            have hz0 : s[0] = 48 := by apply UInt8.toNat_inj.1; rw [hz.1]; rfl
            have HF := Hid.of (prs_no (max := max) HN.out (by rw [HN2.out, hr, hz0]; simp; omega))
            clear hz hr hz0
            go_wp2
            go_ret2
            rw [HF.out]
            exact ⟨rfl, Up.refl _⟩
          · have hisN : isN s.data.toList = true := by
              rw [HN2.out, hr]
              by_cases h1 : s.size = 1
              · simp [h1]
              · have h2 : 1 < s.size := by omega
                have h3 : s[0] ≠ 48 := fun e => hz ⟨by rw [e]; rfl, h2⟩
                simp [h2, h3]
            have HI := Hid.of hisN
            have hzc : ((s[0].toNat : Int) == 48) = false ∨ (((s[0].toNat : Int) == 48) = true ∧ ¬ (1 : Int) < (s.size : Int)) := by
              by_cases h3 : s[0].toNat = 48
              · right; exact ⟨by simp; omega, by omega⟩
              · left; simp; omega
            have hltN : ¬ (i : Int) < (s.size : Int) := by omega
            clear hz hr hisN hie hlt
            by_cases hm : max < 0
            · have HF := Hid.of (prs_rng (max := max) HN.out HI.out (by omega))
              rcases hzc with q1 | ⟨q1, q2⟩
              · go_wp2
                go_ret2
                rw [HF.out]
                exact ⟨rfl, Up.refl _⟩
              · go_wp2
                go_ret2
                rw [HF.out]
                exact ⟨rfl, Up.refl _⟩
            · obtain ⟨M, hM⟩ : ∃ M : Nat, max = (M : Int) := ⟨max.toNat, by omega⟩
              have HM := Hid.of (show Go.Lib.itoa max = Go.Lib.decDigits M by rw [hM]; exact itoa_nat M)
              have HW := Hid.of (RFormat_walk max h0 h1 w)
              have HMM := Hid.of hM
              clear hM
              rcases hzc with q1 | ⟨q1, q2⟩
              ·
                go_wp2_with fail
                refine HW.out.mono ?_
                rintro e w1 ⟨rfl, hu⟩
                have H1 := Hid.of hu
                clear hu
                rw [HM.out]
                obtain ⟨sb, hsb⟩ : ∃ sb : ByteArray, sb = ⟨(Go.Lib.decDigits M).toArray⟩ := ⟨_, rfl⟩
                rw [show vs (Go.Lib.decDigits M) = .string sb by rw [hsb]]
                have hdb : sb.data.toList = Go.Lib.decDigits M := by rw [hsb]
                have HD := Hid.of hdb
                have hsz : sb.size ≤ 20 := by
                  rw [Go.Lib.size_eq, hdb]; exact dig_len (by have := HMM.out; omega)
                clear hsb hdb
                dsimp only
                have HNM := Hid.of (show nv sb.data.toList = M ∧ isN sb.data.toList = true by rw [HD.out]; exact ⟨nv_dec M, isN_dec M⟩)
                by_cases hov : sb.size < s.size
                · have o1 : (sb.size : Int) < (s.size : Int) := by omega
                  have HF := Hid.of (prs_rng (max := max) HN.out HI.out (by
                    have := nv_longer HI.out (isN_all HNM.out.2) (by rw [← Go.Lib.size_eq, ← Go.Lib.size_eq]; exact hov) (isN_len HNM.out.2)
                    rw [HNM.out.1] at this; have := HMM.out; omega))
                  go_wp2
                  go_ret2
                  rw [HF.out]
                  exact ⟨rfl, H1.out⟩
                · have o1 : decide ((sb.size : Int) < (s.size : Int)) = false := by simp; omega
                  have key : (((s.size : Int) == (sb.size : Int)) = false ∧ nv s.data.toList ≤ M) ∨ (((s.size : Int) == (sb.size : Int)) = true ∧ (!Op.bytesLess s.toList sb.toList && !(s.toList == sb.toList)) = decide (M < nv s.data.toList)) := by
                    by_cases heq : s.size = sb.size
                    · right
                      refine ⟨by simp; omega, ?_⟩
                      rw [Go.Lib.toList_data, Go.Lib.toList_data, more_nv HI.out HNM.out.2 (by rw [← Go.Lib.size_eq, ← Go.Lib.size_eq]; exact heq), HNM.out.1]
                    · left
                      refine ⟨by simp; omega, ?_⟩
                      have := nv_longer HNM.out.2 (isN_all HI.out) (by rw [← Go.Lib.size_eq, ← Go.Lib.size_eq]; omega) (isN_len HI.out)
                      rw [HNM.out.1] at this; omega
                  rcases key with ⟨k1, k2⟩ | ⟨k1, k2⟩
                  · have HB := Hid.of k2
                    clear k2
                    go_wp2
                    go_loop [8, 9] (fun v8 v9 => ∃ i : Nat, v9 = .int .i64 (i : Int) ∧ i ≤ s.size ∧ v8 = .int .i64 (nv (s.data.toList.take i) : Int)) (fun _ v9 => s.size - (intOf v9).toNat)
                    case atStart => exact ⟨0, rfl, by omega, rfl⟩
                    case round =>
                      obtain ⟨j, rfl, hj, rfl⟩ := hrel
                      by_cases hlt : j < s.size
                      · have hlt' : (j : Int) < (s.size : Int) := by omega
                        have ht : s.data.toList.take (j + 1) = s.data.toList.take j ++ [s[j]] := by rw [sget' s j hlt]; exact take_succ0 (by rw [← HS.out]; exact hlt)
                        have hd := isD_iff.1 (show isD s[j] = true from List.all_eq_true.1 HA.out _ (by rw [sget' s j hlt]; exact List.getElem_mem _))
                        have hnx : nv (s.data.toList.take (j + 1)) = 10 * nv (s.data.toList.take j) + (s[j].toNat - 48) := by rw [ht, nv_snoc]
                        have hnl := nv_take s.data.toList (j + 1)
                        have hbd : 10 * nv (s.data.toList.take j) + (s[j].toNat - 48) ≤ 9223372036854775807 := by
                          have := HB.out; have := HMM.out; omega
                        have HX := Hid.of hnx
                        clear ht hnx hnl
                        generalize hq : nv (s.data.toList.take j) = q at *
                        have b1 : (48 : Int) ≤ (s[j].toNat : Int) := by omega
                        have b2 : (s[j].toNat : Int) ≤ 57 := by omega
                        clear hq
                        go_wp2
                        go_round
                        case rel => exact ⟨j + 1, by go_num, by omega, by rw [HX.out]; go_num⟩
                        case measure => simp [intOf]; omega
                      · have hje : j = s.size := by omega
                        have hlt' : ¬ (j : Int) < (s.size : Int) := by omega
                        have HF := Hid.of (prs_ok (max := max) HN.out HI.out (by have := HB.out; have := HMM.out; omega) (by have := HB.out; have := HMM.out; omega))
                        have HT := Hid.of (show nv (s.data.toList.take j) = nv s.data.toList by rw [hje, HS.out, List.take_length])
                        clear hje
                        go_wp2
                        go_ret2
                        rw [HF.out, HT.out]
                        exact ⟨rfl, H1.out⟩
                  · cases hk : decide (M < nv s.data.toList) with
                    | true =>
                      have HF := Hid.of (prs_rng (max := max) HN.out HI.out (by have := of_decide_eq_true hk; have := HMM.out; omega))
                      rw [hk] at k2
                      clear hk
                      go_wp2
                      go_ret2
                      rw [HF.out]
                      exact ⟨rfl, H1.out⟩
                    | false =>
                      have HB := Hid.of (show nv s.data.toList ≤ M by have := of_decide_eq_false hk; omega)
                      rw [hk] at k2
                      clear hk
                      go_wp2
                      go_loop [8, 9] (fun v8 v9 => ∃ i : Nat, v9 = .int .i64 (i : Int) ∧ i ≤ s.size ∧ v8 = .int .i64 (nv (s.data.toList.take i) : Int)) (fun _ v9 => s.size - (intOf v9).toNat)
                      case atStart => exact ⟨0, rfl, by omega, rfl⟩
                      case round =>
                        obtain ⟨j, rfl, hj, rfl⟩ := hrel
                        by_cases hlt : j < s.size
                        · have hlt' : (j : Int) < (s.size : Int) := by omega
                          have ht : s.data.toList.take (j + 1) = s.data.toList.take j ++ [s[j]] := by rw [sget' s j hlt]; exact take_succ0 (by rw [← HS.out]; exact hlt)
                          have hd := isD_iff.1 (show isD s[j] = true from List.all_eq_true.1 HA.out _ (by rw [sget' s j hlt]; exact List.getElem_mem _))
                          have hnx : nv (s.data.toList.take (j + 1)) = 10 * nv (s.data.toList.take j) + (s[j].toNat - 48) := by rw [ht, nv_snoc]
                          have hnl := nv_take s.data.toList (j + 1)
                          have hbd : 10 * nv (s.data.toList.take j) + (s[j].toNat - 48) ≤ 9223372036854775807 := by
                            have := HB.out; have := HMM.out; omega
                          have HX := Hid.of hnx
                          clear ht hnx hnl
                          generalize hq : nv (s.data.toList.take j) = q at *
                          have b1 : (48 : Int) ≤ (s[j].toNat : Int) := by omega
                          have b2 : (s[j].toNat : Int) ≤ 57 := by omega
                          clear hq
                          go_wp2
                          go_round
                          case rel => exact ⟨j + 1, by go_num, by omega, by rw [HX.out]; go_num⟩
                          case measure => simp [intOf]; omega
                        · have hje : j = s.size := by omega
                          have hlt' : ¬ (j : Int) < (s.size : Int) := by omega
                          have HF := Hid.of (prs_ok (max := max) HN.out HI.out (by have := HB.out; have := HMM.out; omega) (by have := HB.out; have := HMM.out; omega))
                          have HT := Hid.of (show nv (s.data.toList.take j) = nv s.data.toList by rw [hje, HS.out, List.take_length])
                          clear hje
                          go_wp2
                          go_ret2
                          rw [HF.out, HT.out]
                          exact ⟨rfl, H1.out⟩
              ·
                go_wp2_with fail
                refine HW.out.mono ?_
                rintro e w1 ⟨rfl, hu⟩
                have H1 := Hid.of hu
                clear hu
                rw [HM.out]
                obtain ⟨sb, hsb⟩ : ∃ sb : ByteArray, sb = ⟨(Go.Lib.decDigits M).toArray⟩ := ⟨_, rfl⟩
                rw [show vs (Go.Lib.decDigits M) = .string sb by rw [hsb]]
                have hdb : sb.data.toList = Go.Lib.decDigits M := by rw [hsb]
                have HD := Hid.of hdb
                have hsz : sb.size ≤ 20 := by
                  rw [Go.Lib.size_eq, hdb]; exact dig_len (by have := HMM.out; omega)
                clear hsb hdb
                dsimp only
                have HNM := Hid.of (show nv sb.data.toList = M ∧ isN sb.data.toList = true by rw [HD.out]; exact ⟨nv_dec M, isN_dec M⟩)
                by_cases hov : sb.size < s.size
                · have o1 : (sb.size : Int) < (s.size : Int) := by omega
                  have HF := Hid.of (prs_rng (max := max) HN.out HI.out (by
                    have := nv_longer HI.out (isN_all HNM.out.2) (by rw [← Go.Lib.size_eq, ← Go.Lib.size_eq]; exact hov) (isN_len HNM.out.2)
                    rw [HNM.out.1] at this; have := HMM.out; omega))
                  go_wp2
                  go_ret2
                  rw [HF.out]
                  exact ⟨rfl, H1.out⟩
                · have o1 : decide ((sb.size : Int) < (s.size : Int)) = false := by simp; omega
                  have key : (((s.size : Int) == (sb.size : Int)) = false ∧ nv s.data.toList ≤ M) ∨ (((s.size : Int) == (sb.size : Int)) = true ∧ (!Op.bytesLess s.toList sb.toList && !(s.toList == sb.toList)) = decide (M < nv s.data.toList)) := by
                    by_cases heq : s.size = sb.size
                    · right
                      refine ⟨by simp; omega, ?_⟩
                      rw [Go.Lib.toList_data, Go.Lib.toList_data, more_nv HI.out HNM.out.2 (by rw [← Go.Lib.size_eq, ← Go.Lib.size_eq]; exact heq), HNM.out.1]
                    · left
                      refine ⟨by simp; omega, ?_⟩
                      have := nv_longer HNM.out.2 (isN_all HI.out) (by rw [← Go.Lib.size_eq, ← Go.Lib.size_eq]; omega) (isN_len HI.out)
                      rw [HNM.out.1] at this; omega
                  rcases key with ⟨k1, k2⟩ | ⟨k1, k2⟩
                  · have HB := Hid.of k2
                    clear k2
                    go_wp2
                    go_loop [8, 9] (fun v8 v9 => ∃ i : Nat, v9 = .int .i64 (i : Int) ∧ i ≤ s.size ∧ v8 = .int .i64 (nv (s.data.toList.take i) : Int)) (fun _ v9 => s.size - (intOf v9).toNat)
                    case atStart => exact ⟨0, rfl, by omega, rfl⟩
                    case round =>
                      obtain ⟨j, rfl, hj, rfl⟩ := hrel
                      by_cases hlt : j < s.size
                      · have hlt' : (j : Int) < (s.size : Int) := by omega
                        have ht : s.data.toList.take (j + 1) = s.data.toList.take j ++ [s[j]] := by rw [sget' s j hlt]; exact take_succ0 (by rw [← HS.out]; exact hlt)
                        have hd := isD_iff.1 (show isD s[j] = true from List.all_eq_true.1 HA.out _ (by rw [sget' s j hlt]; exact List.getElem_mem _))
                        have hnx : nv (s.data.toList.take (j + 1)) = 10 * nv (s.data.toList.take j) + (s[j].toNat - 48) := by rw [ht, nv_snoc]
                        have hnl := nv_take s.data.toList (j + 1)
                        have hbd : 10 * nv (s.data.toList.take j) + (s[j].toNat - 48) ≤ 9223372036854775807 := by
                          have := HB.out; have := HMM.out; omega
                        have HX := Hid.of hnx
                        clear ht hnx hnl
                        generalize hq : nv (s.data.toList.take j) = q at *
                        have b1 : (48 : Int) ≤ (s[j].toNat : Int) := by omega
                        have b2 : (s[j].toNat : Int) ≤ 57 := by omega
                        clear hq
                        go_wp2
                        go_round
                        case rel => exact ⟨j + 1, by go_num, by omega, by rw [HX.out]; go_num⟩
                        case measure => simp [intOf]; omega
                      · have hje : j = s.size := by omega
                        have hlt' : ¬ (j : Int) < (s.size : Int) := by omega
                        have HF := Hid.of (prs_ok (max := max) HN.out HI.out (by have := HB.out; have := HMM.out; omega) (by have := HB.out; have := HMM.out; omega))
                        have HT := Hid.of (show nv (s.data.toList.take j) = nv s.data.toList by rw [hje, HS.out, List.take_length])
                        clear hje
                        go_wp2
                        go_ret2
                        rw [HF.out, HT.out]
                        exact ⟨rfl, H1.out⟩
                  · cases hk : decide (M < nv s.data.toList) with
                    | true =>
                      have HF := Hid.of (prs_rng (max := max) HN.out HI.out (by have := of_decide_eq_true hk; have := HMM.out; omega))
                      rw [hk] at k2
                      clear hk
                      go_wp2
                      go_ret2
                      rw [HF.out]
                      exact ⟨rfl, H1.out⟩
                    | false =>
                      have HB := Hid.of (show nv s.data.toList ≤ M by have := of_decide_eq_false hk; omega)
                      rw [hk] at k2
                      clear hk
                      go_wp2
                      go_loop [8, 9] (fun v8 v9 => ∃ i : Nat, v9 = .int .i64 (i : Int) ∧ i ≤ s.size ∧ v8 = .int .i64 (nv (s.data.toList.take i) : Int)) (fun _ v9 => s.size - (intOf v9).toNat)
                      case atStart => exact ⟨0, rfl, by omega, rfl⟩
                      case round =>
                        obtain ⟨j, rfl, hj, rfl⟩ := hrel
                        by_cases hlt : j < s.size
                        · have hlt' : (j : Int) < (s.size : Int) := by omega
                          have ht : s.data.toList.take (j + 1) = s.data.toList.take j ++ [s[j]] := by rw [sget' s j hlt]; exact take_succ0 (by rw [← HS.out]; exact hlt)
                          have hd := isD_iff.1 (show isD s[j] = true from List.all_eq_true.1 HA.out _ (by rw [sget' s j hlt]; exact List.getElem_mem _))
                          have hnx : nv (s.data.toList.take (j + 1)) = 10 * nv (s.data.toList.take j) + (s[j].toNat - 48) := by rw [ht, nv_snoc]
                          have hnl := nv_take s.data.toList (j + 1)
                          have hbd : 10 * nv (s.data.toList.take j) + (s[j].toNat - 48) ≤ 9223372036854775807 := by
                            have := HB.out; have := HMM.out; omega
                          have HX := Hid.of hnx
                          clear ht hnx hnl
                          generalize hq : nv (s.data.toList.take j) = q at *
                          have b1 : (48 : Int) ≤ (s[j].toNat : Int) := by omega
                          have b2 : (s[j].toNat : Int) ≤ 57 := by omega
                          clear hq
                          go_wp2
                          go_round
                          case rel => exact ⟨j + 1, by go_num, by omega, by rw [HX.out]; go_num⟩
                          case measure => simp [intOf]; omega
                        · have hje : j = s.size := by omega
                          have hlt' : ¬ (j : Int) < (s.size : Int) := by omega
                          have HF := Hid.of (prs_ok (max := max) HN.out HI.out (by have := HB.out; have := HMM.out; omega) (by have := HB.out; have := HMM.out; omega))
                          have HT := Hid.of (show nv (s.data.toList.take j) = nv s.data.toList by rw [hje, HS.out, List.take_length])
                          clear hje
                          go_wp2
                          go_ret2
                          rw [HF.out, HT.out]
                          exact ⟨rfl, H1.out⟩
end Go.Proofs.YtaphjbcnnkoffaaGreatDoor
namespace Go.Proofs.YtaphjbcnnkoffaaGreatDoor
open Go.RowKit TextNum
theorem last_get (s : ByteArray) (h : 0 < s.size) : s.data.toList.getLast? = some 10 ↔ ((s[s.size - 1]'(by omega)).toNat : Int) = 10 := by
  rw [sget', List.getLast?_eq_getElem?]
  have e : s.size = s.data.toList.length := Go.Lib.size_eq s
  have hl : s.data.toList.length - 1 < s.data.toList.length := by omega
  rw [List.getElem?_eq_getElem hl, Option.some.injEq]
  have e2 : s.data.toList[s.size - 1]'(by omega) = s.data.toList[s.data.toList.length - 1] := rfl
  rw [e2]
  constructor
  · intro h; rw [h]; rfl
  · intro h; apply UInt8.toNat_inj.1; have : (10 : UInt8).toNat = 10 := rfl; omega
end Go.Proofs.YtaphjbcnnkoffaaGreatDoor
namespace Go.Proofs.YtaphjbcnnkoffaaGreatDoor
open Go.RowKit TextNum
/-- the document's table of blanks -/
def BTab (w : World) : Prop := ∀ k, k < 19 → w.cell? ⟨1, k, none⟩ = some (.string ⟨(BLK.getD k []).toArray⟩)
theorem BTab.up {w w' : World} (h : BTab w) (hu : Up w w') : BTab w' := fun k hk => hu.cell (h k hk)

set_option maxRecDepth 100000 in
theorem holds_walk (s : ByteArray) (l : List UInt8) (hs : s.size ≤ 100) (hl : l.length ≤ 3) (w : World) : Calls Tryz.prog 69 #[.string s, .string ⟨l.toArray⟩] w fun e w' => ∃ b, e = .returned (.bool b) ∧ (b = true ↔ ∃ i, hold s l i) ∧ w' = w := by
  have hz : (⟨l.toArray⟩ : ByteArray).size = l.length := by simp [ByteArray.size]
  go_enter Tryz.func69, Tryz.ntmps69
  go_wp2
  go_loop [5] (fun v5 => ∃ i : Nat, v5 = .int .i64 (i : Int) ∧ i ≤ s.size + 1 ∧ Hid (∀ j, j < i → ¬ hold s l j)) (fun v5 => s.size + 1 - (intOf v5).toNat)
  case atStart => exact ⟨0, rfl, by omega, fun j hj => by omega⟩
  case round =>
    obtain ⟨i, rfl, hi, hI⟩ := hrel
    by_cases hlt : i + l.length ≤ s.size
    · have hlt' : (i : Int) + (l.length : Int) ≤ (s.size : Int) := by omega
      by_cases h1 : hold s l i
      · have c1 : s.extract i (i + l.length) = ⟨l.toArray⟩ := h1.2
        have HE := Hid.of h1
        clear h1
        go_wp2
        go_ret
        exact .inr ⟨rfl, ⟨i, HE.out⟩, rfl⟩
      · have c1 : ((s.extract i (i + l.length)).toList == l) = false := by
          rw [Go.Lib.toList_data]
          refine Bool.eq_false_iff.2 fun h => h1 ⟨hlt, ?_⟩
          exact ByteArray.ext (Array.toList_inj.1 (eq_of_beq h))
        have HE := Hid.of (show ∀ j, j < i + 1 → ¬ hold s l j from fun j hj hb => by
          by_cases e : j = i
          · subst e; exact h1 hb
          · exact hI.out j (by omega) hb)
        clear h1
        go_wp2
        go_round
        case rel => exact ⟨i + 1, by go_num, by omega, HE⟩
        case measure => simp [intOf]; omega
    · have hlt' : ¬ (i : Int) + (l.length : Int) ≤ (s.size : Int) := by omega
      have HE := Hid.of (show ∀ j, ¬ hold s l j from fun j hb => hI.out j (by have := hb.1; omega) hb)
      go_wp2
      go_ret
      exact .inl ⟨rfl, HE.out, rfl⟩

theorem BLK_len {k : Nat} (h : k < 19) : (BLK.getD k []).length ≤ 3 := by
  have : ∀ k : Fin 19, (BLK.getD k.1 []).length ≤ 3 := by decide
  exact this ⟨k, h⟩
theorem BLK_mem {l : List UInt8} (h : l ∈ BLK) : ∃ k, k < 19 ∧ BLK.getD k [] = l := by
  obtain ⟨k, hk, rfl⟩ := List.getElem_of_mem h
  exact ⟨k, hk, by rw [List.getD_eq_getElem?_getD, List.getElem?_eq_getElem hk]; rfl⟩
theorem mem_BLK {k : Nat} (h : k < 19) : BLK.getD k [] ∈ BLK := by
  rw [List.getD_eq_getElem?_getD, List.getElem?_eq_getElem (show k < BLK.length from h)]
  exact List.getElem_mem _
set_option maxRecDepth 100000 in
theorem RCheckName_walk (s : ByteArray) (w : World) (hB : BTab w) : Calls Tryz.prog 41 #[.string s] w fun e w' => e = .returned (.int .i64 (nameR s)) ∧ w' = w := by
  by_cases h0 : s.size = 0
  · have HN := Hid.of (name_bad (.inl h0))
    have d0 : (s.size : Int) < 1 := by omega
    clear h0
    go_enter Tryz.func41, Tryz.ntmps41
    go_wp2
    go_ret
    rw [HN.out]
    exact ⟨rfl, rfl⟩
  have d0 : ¬ (s.size : Int) < 1 := by omega
  by_cases h1 : 100 < s.size
  · have d1 : (100 : Int) < (s.size : Int) := by omega
    have HN := Hid.of (name_bad (.inr (.inl h1)))
    clear h1 h0
    go_enter Tryz.func41, Tryz.ntmps41
    go_wp2
    go_ret
    rw [HN.out]
    exact ⟨rfl, rfl⟩
  have d1 : ¬ (100 : Int) < (s.size : Int) := by omega
  have hs : s.size ≤ 100 := by omega
  have H01 := Hid.of (And.intro h0 h1)
  clear h0 h1
  go_enter Tryz.func41, Tryz.ntmps41
  go_wp2_with fail
  refine (RPlain_walk s w).mono ?_
  rintro e w1 ⟨rfl, hw1⟩
  obtain rfl := hw1.symm
  by_cases h2 : ¬ plainR s = 0
  · have HN := Hid.of (name_bad (.inr (.inr (.inl h2))))
    have h2' : (plainR s == 0) = false := by simpa using h2
    generalize plainR s = pr at *
    go_wp2
    go_ret
    rw [HN.out]
    exact ⟨rfl, rfl⟩
  replace h2 : plainR s = 0 := Decidable.not_not.1 h2
  rw [h2]
  have HP := Hid.of h2
  clear h2
  dsimp only
  go_wp2
  go_loop [3] (fun v3 => ∃ i : Nat, v3 = .int .i64 (i : Int) ∧ i ≤ s.size ∧ Hid (∀ j, j < i → ¬ (gb s j ≤ 32 ∨ gb s j = 43 ∨ gb s j = 127))) (fun v3 => s.size - (intOf v3).toNat)
  case atStart => exact ⟨0, rfl, by omega, fun j hj => by omega⟩
  case round =>
    obtain ⟨i, rfl, hi, hI⟩ := hrel
    by_cases hlt : i < s.size
    · have hlt' : (i : Int) < (s.size : Int) := by omega
      have hg := gb_get hlt
      have HJ := Hid.of (show ∀ k, k < s.size → (gb s k ≤ 32 ∨ gb s k = 43 ∨ gb s k = 127) → nameR s = 70 from fun k hk h => by
        rcases name_val s with h3 | h3
        · exact absurd h (((name_iff s).1 h3).2.2.2 k hk).1
        · exact h3)
      by_cases c1 : gb s i ≤ 32
      · have q1 : (s[i].toNat : Int) ≤ 32 := by omega
        have HN := Hid.of (HJ.out i hlt (.inl c1))
        clear c1 hg
        go_wp2
        go_ret
        rw [HN.out]
        exact ⟨rfl, rfl⟩
      · have q1 : ¬ (s[i].toNat : Int) ≤ 32 := by omega
        by_cases c2 : gb s i = 43
        · have q2 : ((s[i].toNat : Int) == 43) = true := by simp; omega
          have HN := Hid.of (HJ.out i hlt (.inr (.inl c2)))
          clear c1 c2 hg
          go_wp2
          go_ret
          rw [HN.out]
          exact ⟨rfl, rfl⟩
        · have q2 : ((s[i].toNat : Int) == 43) = false := by simp; omega
          by_cases c3 : gb s i = 127
          · have q3 : ((s[i].toNat : Int) == 127) = true := by simp; omega
            have HN := Hid.of (HJ.out i hlt (.inr (.inr c3)))
            clear c1 c2 c3 hg
            go_wp2
            go_ret
            rw [HN.out]
            exact ⟨rfl, rfl⟩
          · have q3 : ((s[i].toNat : Int) == 127) = false := by simp; omega
            have HE := Hid.of (show ∀ j, j < i + 1 → ¬ (gb s j ≤ 32 ∨ gb s j = 43 ∨ gb s j = 127) from fun j hj hb => by
              by_cases e : j = i
              · subst e; omega
              · exact hI.out j (by omega) hb)
            clear c1 c2 c3 hg
            go_wp2
            go_round
            case rel => exact ⟨i + 1, by go_num, by omega, HE⟩
            case measure => simp [intOf]; omega
    · have hlt' : ¬ (i : Int) < (s.size : Int) := by omega
      have HA := Hid.of (show ∀ j, j < s.size → ¬ (gb s j ≤ 32 ∨ gb s j = 43 ∨ gb s j = 127) from fun j hj => hI.out j (by omega))
      clear hI
      go_wp2
      go_loop [4] (fun v4 => ∃ k : Nat, v4 = .int .i64 (k : Int) ∧ k ≤ 19 ∧ Hid (∀ j, j < k → ∀ i, ¬ hold s (BLK.getD j []) i)) (fun v4 => 19 - (intOf v4).toNat)
      case atStart => exact ⟨0, rfl, by omega, fun j hj => by omega⟩
      case round =>
        obtain ⟨k, rfl, hk, hK⟩ := hrel
        by_cases hkl : k < 19
        · have hkl' : (k : Int) < 19 := by omega
          have hcell := hB k hkl
          have hL := BLK_len hkl
          have HM := Hid.of (mem_BLK hkl)
          generalize hl : BLK.getD k [] = l at *
          have HL := Hid.of hl
          clear hl
          go_wp2_with fail
          refine (holds_walk s l hs hL w).mono ?_
          rintro e w2 ⟨b, rfl, hb, hw2⟩
          obtain rfl := hw2.symm
          have HB := Hid.of hb
          clear hb
          dsimp only
          cases b with
          | true =>
            have HN := Hid.of (show nameR s = 70 by
              obtain ⟨i, hi⟩ := HB.out.1 rfl
              rcases name_val s with h3 | h3
              · have hbk := (hold_blk s i).1 ⟨l, HM.out, hi⟩
                have hib : i < s.size := gb_pos (by have := blkN_lead hbk; omega)
                exact absurd hbk (((name_iff s).1 h3).2.2.2 i hib).2
              · exact h3)
            go_wp2
            go_ret
            rw [HN.out]
            exact ⟨rfl, rfl⟩
          | false =>
            have HE := Hid.of (show ∀ j, j < k + 1 → ∀ i, ¬ hold s (BLK.getD j []) i from fun j hj i hb => by
              by_cases e : j = k
              · subst e; rw [HL.out] at hb; exact absurd (HB.out.2 ⟨i, hb⟩) (by simp)
              · exact hK.out j (by omega) i hb)
            go_wp2
            go_round
            case rel => exact ⟨k + 1, by go_num, by omega, HE⟩
            case measure => simp [intOf]; omega
        · have hkl' : ¬ (k : Int) < 19 := by omega
          have HN := Hid.of (show nameR s = 0 from (name_iff s).2 ⟨by have := H01.out.1; omega, hs, HP.out, fun i hi => ⟨HA.out i hi, fun hb => by
            obtain ⟨l, hl, hh⟩ := (hold_blk s i).2 hb
            obtain ⟨j, hj, rfl⟩ := BLK_mem hl
            exact hK.out j (by omega) i hh⟩⟩)
          go_wp2
          go_ret
          rw [HN.out]
          exact ⟨rfl, rfl⟩
end Go.Proofs.YtaphjbcnnkoffaaGreatDoor
namespace Go.Proofs.YtaphjbcnnkoffaaGreatDoor
open Go.RowKit TextNum
set_option maxRecDepth 100000 in
theorem four_walk (h : Nat) (hh : h < 4294967296) (w : World) : Calls Tryz.prog 70 #[.int .u32 (h : Int)] w fun e w' => ∃ v, e = .returned v ∧ Own w' w.heap.size v (hb4 h) ∧ Up w w' := by
  go_enter Tryz.func70, Tryz.ntmps70
  go_wp2
  go_ret
  refine ⟨_, rfl, ?_, (Up.refl w).alloc _⟩
  have e : #[Value.int IntKind.u8 ((h : Int) / 16777216), Value.int IntKind.u8 ((h : Int) / 65536 % 256), Value.int IntKind.u8 ((h : Int) / 256 % 256), Value.int IntKind.u8 ((h : Int) % 256)] = (cb (hb4 h)).toArray := by
    have e1 : (h : Int) / 16777216 = ((UInt8.ofNat (h / 16777216)).toNat : Int) := by rw [UInt8.toNat_ofNat']; omega
    have e2 : (h : Int) / 65536 % 256 = ((UInt8.ofNat (h / 65536)).toNat : Int) := by rw [UInt8.toNat_ofNat']; omega
    have e3 : (h : Int) / 256 % 256 = ((UInt8.ofNat (h / 256)).toNat : Int) := by rw [UInt8.toNat_ofNat']; omega
    have e4 : (h : Int) % 256 = ((UInt8.ofNat h).toNat : Int) := by rw [UInt8.toNat_ofNat']; omega
    rw [e1, e2, e3, e4]
    rfl
  rw [e]
  have := World.ownsRow_lit (base := w.heap.size) (e := 5) (size := 1) w (cb (hb4 h)).toArray 4 (Nat.le_refl _) (by unfold maxLen; omega) (by simp [cb, hb4])
  simpa [Own, hb4, cb] using this
set_option maxRecDepth 100000 in
set_option maxHeartbeats 1000000 in
theorem line_walk (s : Sg) (a : Option Addr) (c : Nat) (w : World) (hb : Sl w (.slice a s.bytes.length c) s.bytes) (hn : s.name.size ≤ 65536) (hl : s.bytes.length ≤ 65536) (hh : s.hash < 4294967296) :
    Calls Tryz.prog 42 #[.agg #[.string s.name, .int .u32 (s.hash : Int), .slice a s.bytes.length c]] w fun e w' => e = .returned (vs (sigB s ++ [10])) ∧ Up w w' := by
  have HB := Hid.of hb
  clear hb
  obtain ⟨name, hash, bytes⟩ := s
  dsimp only at HB hl hn hh ⊢
  generalize hs1 : (⟨#[226, 128, 148, 32]⟩ : ByteArray) ++ name = s1
  have k1 : s1.size ≤ 65540 := by rw [← hs1, ByteArray.size_append, show (⟨#[226, 128, 148, 32]⟩ : ByteArray).size = 4 from rfl]; omega
  generalize hs2 : s1 ++ (⟨#[32]⟩ : ByteArray) = s2
  have k2 : s2.size ≤ 65541 := by rw [← hs2, ByteArray.size_append, show (⟨#[32]⟩ : ByteArray).size = 1 from rfl]; omega
  generalize hs3 : (⟨(b64E (hb4 hash ++ bytes)).toArray⟩ : ByteArray) = s3
  have k3 : s3.size ≤ 131072 := by rw [← hs3, Go.Lib.size_eq]; simp only [b64E_length, List.length_append, hb4, List.length_cons, List.length_nil]; omega
  generalize hs4 : s2 ++ s3 = s4
  have k4 : s4.size ≤ 196613 := by rw [← hs4, ByteArray.size_append]; omega
  generalize hs5 : s4 ++ (⟨#[10]⟩ : ByteArray) = s5
  have k5 : s5.size ≤ 196614 := by rw [← hs5, ByteArray.size_append, show (⟨#[10]⟩ : ByteArray).size = 1 from rfl]; omega
  have HE := Hid.of (show vs (sigB ⟨name, hash, bytes⟩ ++ [10]) = .string s5 by
    rw [← hs5, ← hs4, ← hs3, ← hs2, ← hs1]
    unfold vs
    refine congrArg Value.string (ba_list7 ?_)
    simp [sigB, MK, ByteArray.data_append])
  have HL := Hid.of hl
  clear hl
  go_enter Tryz.func42, Tryz.ntmps42
  go_wp2_with fail
  generalize hnb : bytes.length = nb at *
  refine (four_walk hash hh _).mono ?_
  rintro e w1 ⟨v1, rfl, hO, u1⟩
  have u0 := (Up.refl w).alloc (.cells #[.string name, .int .u32 (hash : Int), .slice a nb c] 65)
  have c1 : w1.cell? ⟨w.heap.size, 0, none⟩ = some (.string name) := u1.cell (by rw [World.cell?_alloc_at _ _ _ _ rfl]; rfl)
  have c3 : w1.cell? ⟨w.heap.size, 2, none⟩ = some (.slice a nb c) := u1.cell (by rw [World.cell?_alloc_at _ _ _ _ rfl]; rfl)
  have hz1 : w.heap.size < w1.heap.size := Nat.lt_of_lt_of_le (by simp) u1.size
  have H1 := Hid.of (And.intro hO (And.intro (u0.trans u1) (And.intro hz1 (And.intro u1.size (HB.out.up (u0.trans u1))))))
  generalize hb0 : (w.alloc (.cells #[.string name, .int .u32 (hash : Int), .slice a nb c] 65)).heap.size = B0 at H1
  have hB0 : w.heap.size < B0 := by rw [← hb0]; simp
  clear hO u1 u0 hb0 hz1
  dsimp only
  go_wp2_with (with_reducible show wpList _ _ _ ({ dst := _, op := Op.call { callee := Callee.builtin Builtin.append, args := _, argTypes := _ }, type := _, pos := _, after := _, guard := _ } :: _) _ _; refine Shut.out ?_)
  show wpList _ _ _ _ _ _
  refine wpList_appSl rfl _ _ rfl B0 v1 (.slice a nb c) (hb4 hash) bytes rfl H1.out.1 rfl H1.out.2.2.2.2 (by have := HL.out; simp [hb4]; omega) H1.out.2.2.2.1 ?_
  intro v9 w3 hO9 hB9
  simp only [Act.put, List.setIfInBounds_toArray, List.set_cons_zero, List.set_cons_succ]
  have u3 : Up w w3 := H1.out.2.1.step (by omega) hB9
  have c1' : w3.cell? ⟨w.heap.size, 0, none⟩ = some (.string name) := by rw [Below.cell hB9 (p := ⟨w.heap.size, 0, none⟩) hB0]; exact c1
  obtain ⟨a9, c9, rfl⟩ := hO9.len
  have HO9 := Hid.of hO9.sl
  generalize (hb4 hash ++ bytes).length = n9 at *
  clear c1 c3 hO9 hB9 H1
  go_wp2_with fail
  refine wp_region_held_drew (S := fun w2 => w2.cell? ⟨w.heap.size, 0, none⟩ = some (.string name) ∧ Sl w2 (.slice a9 n9 c9) (hb4 hash ++ bytes) ∧ Up w w2) (by kernel_rfl) ⟨c1', HO9.out.up (Up.refl w3).drew, u3.drew⟩ (fun hS => ?_)
  clear c1' HO9 u3
  refine wpAnyH_take (i := 0) (oi := { dst := some 11, op := Go.Op.fieldAddr 65 (Go.Operand.tmp 1) 0, type := 0, pos := "ref.go:290", after := #[], guard := none }) (v := .pointer (some ⟨w.heap.size, 0, none⟩)) rfl (by kernel_rfl) (by kernel_rfl) (by kernel_rfl) (fun _ _ _ h => h) (Or.inl ⟨by kernel_rfl, ?_⟩) hS ?_
  · intro w5 hSw
    clear hSw hS
    go_simp
  simp only [Act.put, List.setIfInBounds_toArray, List.set_cons_zero, List.set_cons_succ]
  refine wpAnyH_take (i := 1) (oi := { dst := some 12, op := Go.Op.load 9 (Go.Operand.tmp 11), type := 9, pos := "ref.go:290", after := #[{ on := 0, ground := Go.Ground.data }], guard := none }) (v := .string name) rfl (by kernel_rfl) (by kernel_rfl) (by kernel_rfl) (fun _ _ _ h => h) (Or.inl ⟨by kernel_rfl, ?_⟩) hS ?_
  · intro w5 hSw
    have h1 := hSw.1
    clear hSw hS
    go_simp
  simp only [Act.put, List.setIfInBounds_toArray, List.set_cons_zero, List.set_cons_succ]
  refine wpAnyH_take (i := 2) (oi := { dst := some 13, op := Go.Op.binOp Go.BinOp.add 9 (Go.Operand.const (Go.Value.string { data := #[226, 128, 148, 32] })) (Go.Operand.tmp 12) 9, type := 9, pos := "ref.go:290", after := #[{ on := 1, ground := Go.Ground.data }], guard := none }) (v := .string s1) rfl (by kernel_rfl) (by kernel_rfl) (by kernel_rfl) (fun _ _ _ h => h) (Or.inl ⟨by kernel_rfl, ?_⟩) hS ?_
  · intro w5 hSw
    clear hSw hS
    go_simp <;> omega
  simp only [Act.put, List.setIfInBounds_toArray, List.set_cons_zero, List.set_cons_succ]
  refine wpAnyH_take (i := 3) (oi := { dst := some 14, op := Go.Op.binOp Go.BinOp.add 9 (Go.Operand.tmp 13) (Go.Operand.const (Go.Value.string { data := #[32] })) 9, type := 9, pos := "ref.go:290", after := #[{ on := 2, ground := Go.Ground.data }], guard := none }) (v := .string s2) rfl (by kernel_rfl) (by kernel_rfl) (by kernel_rfl) (fun _ _ _ h => h) (Or.inl ⟨by kernel_rfl, ?_⟩) hS ?_
  · intro w5 hSw
    clear hSw hS
    go_simp <;> omega
  simp only [Act.put, List.setIfInBounds_toArray, List.set_cons_zero, List.set_cons_succ]
  refine wpAnyH_take (i := 4) (oi := { dst := some 15, op := Go.Op.move (Go.Operand.tmp 3), type := 22, pos := "ref.go:290", after := #[], guard := none }) (v := .slice a9 n9 c9) rfl (by kernel_rfl) (by kernel_rfl) (by kernel_rfl) (fun _ _ _ h => h) (Or.inl ⟨by kernel_rfl, ?_⟩) hS ?_
  · intro w5 hSw
    clear hSw hS
    go_simp
  simp only [Act.put, List.setIfInBounds_toArray, List.set_cons_zero, List.set_cons_succ]
  refine wpAnyH_ready (rs := [5]) (by kernel_rfl) (by simp) ?_
  refine AllReadyH.cons (o := { dst := some 16, op := Go.Op.call { callee := Go.Callee.value (Go.Operand.func 67), args := #[Go.Operand.tmp 15], argTypes := #[22] }, type := 9, pos := "ref.go:290", after := #[{ on := 4, ground := Go.Ground.data }], guard := none }) rfl (fun K hK => ?_) AllReadyH.nil
  rw [if_pos (by kernel_rfl)]
  go_simp
  refine (REncode64_walk _ (hb4 hash ++ bytes) _ hS.2.1 (by have := HL.out; simp [hb4]; omega)).mono ?_
  rintro e w4 ⟨rfl, u⟩
  rw [show vs (b64E (hb4 hash ++ bytes)) = .string s3 by rw [← hs3]]
  dsimp only
  have hS2 := And.intro (u.cell hS.1) (And.intro (hS.2.1.up u) (hS.2.2.trans u))
  clear hS u
  refine hK.out _ _ hS2 (fun hS => ?_)
  clear hK hS2 K
  refine wpAnyH_take (i := 6) (oi := { dst := some 17, op := Go.Op.binOp Go.BinOp.add 9 (Go.Operand.tmp 14) (Go.Operand.tmp 16) 9, type := 9, pos := "ref.go:290", after := #[{ on := 3, ground := Go.Ground.data }, { on := 5, ground := Go.Ground.data }], guard := none }) (v := .string s4) rfl (by kernel_rfl) (by kernel_rfl) (by kernel_rfl) (fun _ _ _ h => h) (Or.inl ⟨by kernel_rfl, ?_⟩) hS ?_
  · intro w5 hSw
    clear hSw hS
    go_simp <;> omega
  simp only [Act.put, List.setIfInBounds_toArray, List.set_cons_zero, List.set_cons_succ]
  refine wpAnyH_take (i := 7) (oi := { dst := some 18, op := Go.Op.binOp Go.BinOp.add 9 (Go.Operand.tmp 17) (Go.Operand.const (Go.Value.string { data := #[10] })) 9, type := 9, pos := "ref.go:290", after := #[{ on := 6, ground := Go.Ground.data }], guard := none }) (v := .string s5) rfl (by kernel_rfl) (by kernel_rfl) (by kernel_rfl) (fun _ _ _ h => h) (Or.inl ⟨by kernel_rfl, ?_⟩) hS ?_
  · intro w5 hSw
    clear hSw hS
    go_simp <;> omega
  simp only [Act.put, List.setIfInBounds_toArray, List.set_cons_zero, List.set_cons_succ]
  refine wpAnyH_take (i := 8) (oi := { dst := some 2, op := Go.Op.assign (Go.Operand.tmp 18), type := 9, pos := "ref.go:290", after := #[{ on := 7, ground := Go.Ground.data }, { on := 5, ground := Go.Ground.chain }, { on := 0, ground := Go.Ground.phase }, { on := 1, ground := Go.Ground.phase }, { on := 2, ground := Go.Ground.phase }, { on := 3, ground := Go.Ground.phase }, { on := 4, ground := Go.Ground.phase }, { on := 5, ground := Go.Ground.phase }, { on := 6, ground := Go.Ground.phase }, { on := 7, ground := Go.Ground.phase }], guard := none }) (v := .string s5) rfl (by kernel_rfl) (by kernel_rfl) (by kernel_rfl) (fun _ _ _ h => h) (Or.inl ⟨by kernel_rfl, ?_⟩) hS ?_
  · intro w5 hSw
    clear hSw hS
    go_simp
  simp only [Act.put, List.setIfInBounds_toArray, List.set_cons_zero, List.set_cons_succ]
  have HU := Hid.of hS.2.2
  clear hS
  refine wpAnyH_done (by kernel_rfl) ?_ _
  go_wp2
  go_ret
  exact ⟨by rw [HE.out]; rfl, HU.out⟩
open Classical in
set_option maxRecDepth 100000 in
set_option maxHeartbeats 1000000 in
theorem fit_walk (s : ByteArray) (hs : s.size ≤ 140737488355328) (w : World) : Calls Tryz.prog 40 #[.string s] w fun e w' => e = .returned (.bool (decide (okT s))) ∧ w' = w := by
  go_enter Tryz.func40, Tryz.ntmps40
  by_cases h0 : s.size = 0
  · obtain rfl := szeroB h0
    go_wp2
    go_ret
    exact ⟨by rw [decide_eq_false (fun h => by have := h.1; cases this)]; rfl, rfl⟩
  have h0' := enoB h0
  have hw : IntKind.i64.wrap ((s.size : Int) - 1) = ((s.size - 1 : Nat) : Int) := by
    simp only [IntKind.wrap, IntKind.signed, IntKind.bits]; simp; omega
  have HL := Hid.of (last_get s (by omega))
  by_cases hx : ((s[s.size - 1]'(by omega)).toNat : Int) = 10
  rotate_left
  · have HX := Hid.of (show ¬ okT s from fun h => hx (HL.out.1 h.1))
    go_wp2
    go_ret
    exact ⟨by rw [decide_eq_false HX.out]; rfl, rfl⟩
  have HX := Hid.of (HL.out.2 hx)
  go_wp2_with fail
  refine (RPlain_walk s w).mono ?_
  rintro e w1 ⟨rfl, hw1⟩
  obtain rfl := hw1.symm
  have HP := Hid.of (show plainR s = plainR s from rfl)
  generalize hp : plainR s = p at HP ⊢
  clear HP
  have HP := Hid.of hp
  clear hp
  dsimp only
  by_cases h : p = 0
  · subst h
    go_wp2
    go_ret
    exact ⟨by rw [decide_eq_true (show okT s from ⟨HX.out, HP.out⟩)]; rfl, rfl⟩
  · have h' : (p == 0) = false := by simpa using h
    go_wp2
    go_ret
    exact ⟨by rw [decide_eq_false (fun hk : okT s => h (by rw [← HP.out]; exact hk.2))]; rfl, rfl⟩
end Go.Proofs.YtaphjbcnnkoffaaGreatDoor
namespace Go.Proofs.YtaphjbcnnkoffaaGreatDoor
open Go.RowKit TextNum
theorem sumL_take : ∀ (ss : List Sg) (i : Nat) (h : i < ss.length), sumL (ss.take (i + 1)) = sumL (ss.take i) + sgLen ss[i]
  | s :: r, 0, _ => by simp [sumL]
  | s :: r, i + 1, h => by
    have := sumL_take r i (by simpa using h)
    simp only [List.take_succ_cons, sumL, List.getElem_cons_succ]
    omega
def Bds (ss : List Sg) : Prop := ∀ s, s ∈ ss → s.name.size ≤ 140737488355328 ∧ s.bytes.length ≤ 140737488355328
theorem sgLen_bd {s : Sg} (h : s.name.size ≤ 140737488355328 ∧ s.bytes.length ≤ 140737488355328) : sgLen s ≤ 562949953421312 := by unfold sgLen; omega
theorem sumL_bd : ∀ (ss : List Sg), Bds ss → sumL ss ≤ ss.length * 562949953421312
  | [], _ => by simp [sumL]
  | s :: r, h => by
    have h1 := sumL_bd r (fun x hx => h x (by simp [hx]))
    have h2 := sgLen_bd (h s (by simp))
    simp only [sumL, List.length_cons]
    omega
theorem w64 {x : Int} (h : -9223372036854775808 ≤ x ∧ x < 9223372036854775808) : wrap64 x = x := by
  unfold wrap64
  omega
def fmtP (t : List UInt8) (ss : List Sg) (i : Nat) : List UInt8 := t ++ 10 :: joinL ((ss.take i).map sigB)
theorem joinL_app7 : ∀ (a b : List (List UInt8)), joinL (a ++ b) = joinL a ++ joinL b
  | [], b => by simp [joinL]
  | x :: a, b => by rw [List.cons_append, joinL_cons, joinL_cons, joinL_app7 a b]; simp
theorem fmtP_succ (t : List UInt8) (ss : List Sg) (i : Nat) (h : i < ss.length) : fmtP t ss (i + 1) = fmtP t ss i ++ (sigB ss[i] ++ [10]) := by
  unfold fmtP
  rw [List.take_succ_eq_append_getElem h, List.map_append, joinL_app7]
  simp [joinL]
theorem sumL_take_le (ss : List Sg) (i : Nat) : sumL (ss.take i) ≤ sumL ss := by
  induction ss generalizing i with
  | nil => simp [sumL]
  | cons s r ih =>
    cases i with
    | zero => simp [sumL]
    | succ i => have := ih i; simp only [List.take_succ_cons, sumL]; omega
theorem fmtP_len (t : ByteArray) (ss : List Sg) (i : Nat) : (fmtP t.data.toList ss i).length ≤ nlen t ss := by
  unfold fmtP nlen
  have := sumL_take_le ss i
  rw [List.length_append, List.length_cons, joinL_len, ← Go.Lib.size_eq]
  omega
def Hsh (ss : List Sg) : Prop := ∀ s, s ∈ ss → s.hash < 4294967296
def FA (t : ByteArray) (ss : List Sg) (w : World) (e : Ending) (w' : World) : Prop := ∃ v er, e = .returned (.tuple #[v, .int .i64 er]) ∧ FRB t ss er ∧ (er = 0 → Sl w' v (fmtN t.data.toList ss)) ∧ (er ≠ 0 → v = .slice none 0 0) ∧ Up w w'
def FB (t : ByteArray) (ss : List Sg) (w : World) (e : Ending) (w' : World) : Prop := ∃ v er, e = .returned (.tuple #[v, .int .i64 er]) ∧ FRB t ss er ∧ (er = 0 → OwnM w' w.heap.size v (fmtN t.data.toList ss)) ∧ (er ≠ 0 → v = .slice none 0 0) ∧ Up w w'
theorem FB.fa {t : ByteArray} {ss : List Sg} {w : World} {e : Ending} {w' : World} (h : FB t ss w e w') : FA t ss w e w' := by
  obtain ⟨v, er, h1, h2, h3, h4, h5⟩ := h
  exact ⟨v, er, h1, h2, fun h => (h3 h).sl, h4, h5⟩
open Classical in
theorem BTab_up {w w' : World} (h : BTab w) (u : Up w w') : BTab w' := fun k hk => u.cell (h k hk)
theorem nl_step2 (T S n b : Nat) (hT : T ≤ 140737488355328) (hS : S ≤ 9007199254740992) (hn : n ≤ 140737488355328) (hb : b ≤ 140737488355328) :
    wrap64 (wrap64 (wrap64 (wrap64 (wrap64 (wrap64 ((T : Int) + 1 + (S : Int) + 3) + 1) + (n : Int)) + 1) + wrap64 (wrap64 ((wrap64 (wrap64 ((b : Int) + 4) + 2)).tdiv 3) * 4)) + 1) = ((T + 1 + (S + (4 + n + 1 + (4 + b + 2) / 3 * 4 + 1)) : Nat) : Int) := by
  have e : ((b : Int) + 4 + 2).tdiv 3 = (((4 + b + 2) / 3 : Nat) : Int) := by
    rw [show ((b : Int) + 4 + 2) = ((4 + b + 2 : Nat) : Int) by omega]; rfl
  rw [w64 (x := (T : Int) + 1 + (S : Int) + 3) (by omega), w64 (x := (T : Int) + 1 + (S : Int) + 3 + 1) (by omega), w64 (x := (T : Int) + 1 + (S : Int) + 3 + 1 + (n : Int)) (by omega), w64 (x := (T : Int) + 1 + (S : Int) + 3 + 1 + (n : Int) + 1) (by omega),
    w64 (x := (b : Int) + 4) (by omega), w64 (x := (b : Int) + 4 + 2) (by omega), e]
  rw [w64 (x := (((4 + b + 2) / 3 : Nat) : Int)) (by omega), w64 (x := (((4 + b + 2) / 3 : Nat) : Int) * 4) (by omega)]
  rw [w64 (x := (T : Int) + 1 + (S : Int) + 3 + 1 + (n : Int) + 1 + (((4 + b + 2) / 3 : Nat) : Int) * 4) (by omega), w64 (by omega)]
  omega
open Classical in
set_option maxRecDepth 100000 in
set_option maxHeartbeats 4000000 in
theorem RFmtN_walkM (t : ByteArray) (ht : t.size ≤ 140737488355328) (v : Value) (ss : List Sg) (w : World) (hS : SigL w v ss) (hb : Bds ss) (hh : Hsh ss) (hT : BTab w) :
    Calls Tryz.prog 23 #[.string t, v] w (FB t ss w) := by
  obtain ⟨a, c, rfl, hc, hg⟩ := hS.get
  have HG := Hid.of hg
  have HB := Hid.of hb
  have HH := Hid.of hh
  have HT := Hid.of hT
  clear hS hg hb hh hT
  obtain ⟨n, hn⟩ : ∃ n, ss.length = n := ⟨_, rfl⟩
  rw [hn] at hc ⊢
  go_enter Tryz.func23, Tryz.ntmps23
  by_cases hts : 65536 < t.size
  · have hts' : (65536 : Int) < (t.size : Int) := by omega
    go_wp2
    go_ret2
    exact ⟨_, _, rfl, .inl ⟨rfl, .inr (by unfold nlen; omega)⟩, fun h => absurd h (by decide), fun _ => rfl, Up.refl _⟩
  have hts' : ¬ (65536 : Int) < (t.size : Int) := by omega
  by_cases h16 : 16 < n
  · have h16' : (16 : Int) < (n : Int) := by omega
    go_wp2
    go_ret2
    exact ⟨_, _, rfl, .inl ⟨rfl, .inl (by omega)⟩, fun h => absurd h (by decide), fun _ => rfl, Up.refl _⟩
  have h16' : ¬ (16 : Int) < (n : Int) := by omega
  go_wp2
  go_loopw [6, 7] (fun v6 v7 wr => ∃ i : Nat, v7 = .int .i64 (i : Int) ∧ v6 = .int .i64 ((t.size + 1 + sumL (ss.take i) : Nat) : Int) ∧ i ≤ n ∧ Hid (Up w wr)) (fun _ v7 _ => n - (intOf v7).toNat)
  case atStart => exact ⟨0, rfl, by simp [sumL], by omega, Up.refl _⟩
  case round =>
    obtain ⟨i, rfl, rfl, hi, hI⟩ := hrel
    by_cases hlt : i < n
    · have hlt' : (i : Int) < (n : Int) := by omega
      have hltS : i < ss.length := by omega
      obtain ⟨b, off, rfl, a2, n2, c2, k1, k2, k3, rfl, k5⟩ := HG.out i hltS
      have k1' := hI.out.cell k1
      have k3' := hI.out.cell k3
      clear k1 k2 k3 k5
      have HX := Hid.of (sumL_take ss i hltS)
      have HM := Hid.of (HB.out _ (List.getElem_mem hltS))
      have hs := sumL_bd (ss.take i) (fun x hx => HB.out x (List.mem_of_mem_take hx))
      rw [List.length_take] at hs
      have HSm := Hid.of (show sumL (ss.take i) ≤ 9007199254740992 by omega)
      clear hs
      generalize ss[i] = s at *
      generalize sumL (ss.take i) = T at *
      go_wp2_with fail
      go_quiet (fail)
      go_wp2
      refine ⟨⟨i + 1, by go_num, ?_, by omega, hI.out.drewN _⟩, by simp [intOf]; omega⟩
      rw [nl_step2 t.size T s.name.size s.bytes.length ht HSm.out HM.out.1 HM.out.2, HX.out]
      rfl
    · have hlt' : ¬ (i : Int) < (n : Int) := by omega
      have hin : i = ss.length := by omega
      have HN := Hid.of (show t.size + 1 + sumL (ss.take i) = nlen t ss by rw [hin, List.take_length]; rfl)
      generalize ht1 : t.size + 1 + sumL (ss.take i) = N at HN ⊢
      by_cases hL : 65536 < N
      · have hL' : (65536 : Int) < (N : Int) := by omega
        clear ht1
        go_wp2
        go_ret2
        exact ⟨_, _, rfl, .inl ⟨rfl, .inr (by rw [← HN.out]; exact hL)⟩, fun h => absurd h (by decide), fun _ => rfl, hI.out⟩
      have hL' : ¬ (65536 : Int) < (N : Int) := by omega
      have HLg := Hid.of (show ¬ Lng t ss by unfold Lng; rw [← HN.out]; omega)
      clear ht1
      go_wp2_with fail
      refine (fit_walk t ht wr).mono ?_
      rintro e w1 ⟨rfl, hw1⟩
      obtain rfl := hw1.symm
      by_cases hk : okT t
      rotate_left
      · rw [decide_eq_false hk]
        have HK := Hid.of hk
        clear hk
        dsimp only
        go_wp2
        go_ret2
        exact ⟨_, _, rfl, .inr (.inl ⟨rfl, HLg.out, fun h => HK.out h.1⟩), fun h => absurd h (by decide), fun _ => rfl, hI.out⟩
      rw [decide_eq_true hk]
      have HK := Hid.of hk
      clear hk
      dsimp only
      by_cases h0 : n = 0
      · have h0' : ((n : Int) == 0) = true := by simpa using h0
        go_wp2
        go_ret2
        exact ⟨_, _, rfl, .inr (.inl ⟨rfl, HLg.out, fun h => h.2.1 (List.length_eq_zero_iff.1 (by omega))⟩), fun h => absurd h (by decide), fun _ => rfl, hI.out⟩
      have h0' : ((n : Int) == 0) = false := by simpa using h0
      have hst : t ++ (⟨#[10]⟩ : ByteArray) = ⟨(fmtP t.data.toList ss 0).toArray⟩ := by
        refine ba_list7 ?_
        simp [fmtP, joinL, ByteArray.data_append]
      have hsz1 : (⟨#[10]⟩ : ByteArray).size = 1 := rfl
      have HPL := Hid.of (fun i => fmtP_len t ss i)
      have HN2 := Hid.of (show nlen t ss ≤ 65536 by rw [← HN.out]; omega)
      clear hin
      go_wp2
      clear hst
      go_loopw [8, 9] (fun v8 v9 wr => ∃ i : Nat, v9 = .int .i64 (i : Int) ∧ v8 = .string ⟨(fmtP t.data.toList ss i).toArray⟩ ∧ i ≤ n ∧ Hid (Up w wr ∧ ∀ s, s ∈ ss.take i → okS s)) (fun _ v9 _ => n - (intOf v9).toNat)
      case atStart => exact ⟨0, rfl, rfl, by omega, hI.out, by simp⟩
      case round =>
        clear hlt hlt' hi
        obtain ⟨i, rfl, rfl, hi, hI⟩ := hrel
        by_cases hlt : i < n
        · have hlt' : (i : Int) < (n : Int) := by omega
          have hltS : i < ss.length := by omega
          obtain ⟨b, off, rfl, a2, n2, c2, k1, k2, k3, rfl, k5⟩ := HG.out i hltS
          have k1' := hI.out.1.cell k1
          have k2' := hI.out.1.cell k2
          have k3' := hI.out.1.cell k3
          have HSl := Hid.of (k5.up hI.out.1)
          clear k1 k2 k3 k5
          have HM := Hid.of (List.getElem_mem hltS)
          have HX := Hid.of (fmtP_succ t.data.toList ss i hltS)
          have HTk := Hid.of (List.take_succ_eq_append_getElem hltS)
          generalize ss[i] = s at *
          have HZ := Hid.of (sgLen_le HM.out)
          go_wp2_with fail
          refine (RCheckName_walk s.name _ (BTab_up HT.out hI.out.1)).mono ?_
          rintro e w2 ⟨rfl, hw2⟩
          obtain rfl := hw2.symm
          rcases name_val s.name with hnm | hnm
          rotate_left
          · have HF := Hid.of (show ¬ Fine t ss from fun h => by have := (h.2.2 s HM.out).1; rw [hnm] at this; cases this)
            rw [hnm]
            clear hnm
            dsimp only
            go_wp2
            go_ret2
            exact ⟨_, _, rfl, .inr (.inl ⟨rfl, HLg.out, HF.out⟩), fun h => absurd h (by decide), fun _ => rfl, hI.out.1⟩
          rw [hnm]
          dsimp only
          by_cases hbl : s.bytes.length = 0
          · have hbl' : ((s.bytes.length : Int) == 0) = true := by simpa using hbl
            have HF := Hid.of (show ¬ Fine t ss from fun h => (h.2.2 s HM.out).2 (List.length_eq_zero_iff.1 hbl))
            go_wp2
            go_ret2
            exact ⟨_, _, rfl, .inr (.inl ⟨rfl, HLg.out, HF.out⟩), fun h => absurd h (by decide), fun _ => rfl, hI.out.1⟩
          have hbl' : ((s.bytes.length : Int) == 0) = false := by simpa using hbl
          have HOK := Hid.of (show okS s from ⟨hnm, fun e => hbl (by rw [e]; rfl)⟩)
          clear hnm
          go_wp2_with fail
          refine (line_walk s a2 c2 _ HSl.out (by have := HZ.out; have := HN2.out; unfold sgLen at *; unfold nlen at *; omega) (by have := HZ.out; have := HN2.out; unfold sgLen at *; unfold nlen at *; omega) (HH.out s HM.out)).mono ?_
          rintro e w3 ⟨rfl, u3⟩
          rw [show vs (sigB s ++ [10]) = .string ⟨(sigB s ++ [10]).toArray⟩ from rfl]
          have hadd : (⟨(fmtP t.data.toList ss i).toArray⟩ : ByteArray) ++ (⟨(sigB s ++ [10]).toArray⟩ : ByteArray) = ⟨(fmtP t.data.toList ss (i + 1)).toArray⟩ := by
            refine ba_list7 ?_
            rw [HX.out]
            simp [ByteArray.data_append]
          have hsz : (⟨(fmtP t.data.toList ss i).toArray⟩ : ByteArray).size + (⟨(sigB s ++ [10]).toArray⟩ : ByteArray).size ≤ 65536 := by
            have h1 := HPL.out (i + 1)
            rw [HX.out, List.length_append] at h1
            rw [Go.Lib.size_eq, Go.Lib.size_eq]
            have := HN2.out
            simp only at h1 ⊢
            omega
          have HNx := Hid.of (show Up w w3 ∧ ∀ s, s ∈ ss.take (i + 1) → okS s from ⟨hI.out.1.trans u3, fun x hx => by
            rw [HTk.out, List.mem_append, List.mem_singleton] at hx
            rcases hx with hx | rfl
            · exact hI.out.2 x hx
            · exact HOK.out⟩)
          clear u3 HSl k1' k2' k3' HX HTk HPL
          generalize (⟨(fmtP t.data.toList ss i).toArray⟩ : ByteArray) = q1 at *
          generalize (⟨(sigB s ++ [10]).toArray⟩ : ByteArray) = q2 at *
          generalize hq3 : (⟨(fmtP t.data.toList ss (i + 1)).toArray⟩ : ByteArray) = q3 at *
          dsimp only
          go_wp2
          refine ⟨⟨i + 1, by go_num, by rw [← hq3], by omega, HNx.out⟩, by simp [intOf]; omega⟩
        · have hlt' : ¬ (i : Int) < (n : Int) := by omega
          have hin : i = ss.length := by omega
          have HFN := Hid.of (show fmtP t.data.toList ss i = fmtN t.data.toList ss by unfold fmtP fmtN; rw [hin, List.take_length])
          have HFi := Hid.of (show Fine t ss from ⟨HK.out, fun e => h0 (by rw [← hn, e]; rfl), fun s hs => hI.out.2 s (by rw [hin, List.take_length]; exact hs)⟩)
          have HLn := Hid.of (show (⟨(fmtP t.data.toList ss i).toArray⟩ : ByteArray).size ≤ 140737488355328 by rw [Go.Lib.size_eq]; have h1 := HPL.out i; have h2 := HN2.out; simp only; omega)
          clear hin
          go_wp2_with (with_reducible show wpList _ _ _ ({ dst := _, op := Op.convert 9 22 _, type := _, pos := _, after := _, guard := _ } :: _) _ _; refine Shut.out ?_)
          show wpList _ _ _ _ _ _
          refine wpList_conv rfl _ rfl _ HLn.out rfl ?_
          intro v4 w4 hO4 u4
          simp only [Act.put, List.setIfInBounds_toArray, List.set_cons_zero, List.set_cons_succ]
          have H4 := Hid.of (show OwnM w4 w.heap.size v4 (fmtN t.data.toList ss) ∧ Up w w4 from ⟨by rw [← HFN.out]; exact hO4.base hI.out.1.size, hI.out.1.trans u4⟩)
          clear hO4 u4
          go_wp2
          go_ret2
          exact ⟨_, _, rfl, .inr (.inr ⟨rfl, HLg.out, HFi.out⟩), fun _ => by exact H4.out.1, fun h => absurd rfl h, H4.out.2⟩
theorem RFmtN_walk (t : ByteArray) (ht : t.size ≤ 140737488355328) (v : Value) (ss : List Sg) (w : World) (hS : SigL w v ss) (hb : Bds ss) (hh : Hsh ss) (hT : BTab w) :
    Calls Tryz.prog 23 #[.string t, v] w (FA t ss w) := (RFmtN_walkM t ht v ss w hS hb hh hT).mono fun _ _ h => h.fa
end Go.Proofs.YtaphjbcnnkoffaaGreatDoor
namespace Go.Proofs.YtaphjbcnnkoffaaGreatDoor
open Go.RowKit TextNum
/-- what loose reading asks of a line's signature -/
def Lo (l : List UInt8) (s : Sg) : Prop := (s.hash < 4294967296 ∧ s.name.size ≤ l.length ∧ s.bytes.length ≤ l.length) ∧ ∀ x : Sg, okS x → x.hash < 4294967296 → sgLen x ≤ 65536 → l = sigB x → s = x
/-- no blank from k to e -/
def Nb (l : List UInt8) (k e : Nat) : Prop := ∀ j, k ≤ j → j < e → l[j]? ≠ some 32
theorem sigB_at {x : Sg} (hx : okS x) : (∀ j, j < 3 → (sigB x)[j]? ≠ some 32) ∧ (sigB x)[3]? = some 32 ∧ (∀ j, 4 ≤ j → j < 4 + x.name.size → (sigB x)[j]? ≠ some 32) ∧ (sigB x)[4 + x.name.size]? = some 32 ∧ 4 + x.name.size + 1 < (sigB x).length := by
  have e : sigB x = MK ++ (x.name.data.toList ++ 32 :: b64E (hb4 x.hash ++ x.bytes)) := by simp [sigB]
  have hb := List.length_pos_iff.2 hx.2
  have hsz := Go.Lib.size_eq x.name
  refine ⟨fun j hj => ?_, ?_, fun j h1 h2 => ?_, ?_, ?_⟩
  · rw [e]
    match j, hj with
    | 0, _ | 1, _ | 2, _ => simp [MK]
  · rw [e]; simp [MK]
  · rw [e, List.getElem?_append_right (by simpa [MK] using h1), show MK.length = 4 from rfl, List.getElem?_append_left (by omega)]
    intro h
    exact name_byte hx.1 (c := 32) (by decide) (List.mem_of_getElem? h)
  · rw [e, List.getElem?_append_right (by simp [MK]), show MK.length = 4 from rfl, List.getElem?_append_right (by omega), show 4 + x.name.size - 4 - x.name.data.toList.length = 0 by omega]
    rfl
  · rw [e]
    simp only [List.length_append, List.length_cons, b64E_length, show MK.length = 4 from rfl, hb4, List.length_nil]
    omega
theorem nb_eq {l : List UInt8} {k e e' : Nat} (h : Nb l k e) (h' : Nb l k e') (hk : k ≤ e) (hk' : k ≤ e') (he : e < l.length → l[e]? = some 32) (he' : e' < l.length → l[e']? = some 32) (hl : e ≤ l.length) (hl' : e' ≤ l.length) : e = e' := by
  rcases Nat.lt_trichotomy e e' with hlt | h0 | hlt
  · exact absurd (he (by omega)) (h' e hk hlt)
  · exact h0
  · exact absurd (he' (by omega)) (h e' hk' hlt)
theorem lo_at {l : List UInt8} {a e : Nat} (h1 : Nb l 0 a) (ha : a ≤ l.length) (h2 : a < l.length → l[a]? = some 32) (h3 : Nb l (a + 1) e) (hae : a + 1 ≤ e) (h4 : e < l.length → l[e]? = some 32) (he : e ≤ l.length ∨ e = a + 1) {x : Sg} (hx : okS x) (hl : l = sigB x) : a = 3 ∧ e = 4 + x.name.size := by
  obtain ⟨b1, b2, b3, b4, b5⟩ := sigB_at hx
  rw [← hl] at b1 b2 b3 b4 b5
  have e1 : a = 3 := nb_eq h1 (fun j _ hj => b1 j hj) (Nat.zero_le _) (Nat.zero_le _) h2 (fun _ => b2) ha (by omega)
  subst e1
  exact ⟨rfl, nb_eq h3 (fun j hj hj2 => b3 j hj hj2) hae (by omega) h4 (fun _ => b4) (by omega) (by omega)⟩
theorem lo_parts {x : Sg} (hs : sgLen x ≤ 65536) : ((sigB x).drop 4).take x.name.size = x.name.data.toList ∧ b64R ((sigB x).drop (4 + x.name.size + 1)) = (hb4 x.hash ++ x.bytes, 0) := by
  have e : sigB x = MK ++ (x.name.data.toList ++ 32 :: b64E (hb4 x.hash ++ x.bytes)) := by simp [sigB]
  have hsz := Go.Lib.size_eq x.name
  have e4 : (sigB x).drop 4 = x.name.data.toList ++ 32 :: b64E (hb4 x.hash ++ x.bytes) := by rw [e]; rfl
  constructor
  · rw [e4, hsz, List.take_left' rfl]
  · rw [show 4 + x.name.size + 1 = 4 + (x.name.size + 1) by omega, ← List.drop_drop, e4, hsz, ← List.drop_drop, List.drop_left' rfl, List.drop_succ_cons, List.drop_zero]
    refine b64R_back _ ?_
    rw [b64E_length, List.length_append]
    simp only [hb4, List.length_cons, List.length_nil]
    unfold sgLen at hs
    omega
theorem lo_zero {l : List UInt8} {a e : Nat} (h1 : Nb l 0 a) (ha : a ≤ l.length) (h2 : a < l.length → l[a]? = some 32) (h3 : Nb l (a + 1) e) (hae : a + 1 ≤ e) (h4 : e < l.length → l[e]? = some 32) (he : e = l.length ∨ (e = a + 1 ∧ l.length ≤ e)) : Lo l ⟨⟨#[]⟩, 0, []⟩ := by
  refine ⟨⟨by decide, Nat.zero_le _, Nat.zero_le _⟩, fun x hx _ _ hl => ?_⟩
  obtain ⟨rfl, rfl⟩ := lo_at h1 ha h2 h3 hae h4 (by omega) hx hl
  have := (sigB_at hx).2.2.2.2
  rw [← hl] at this
  omega
theorem b64R_len (l : List UInt8) : (b64R l).1.length ≤ l.length := by
  unfold b64R
  split
  · exact Nat.zero_le _
  · cases hd : b64D l with
    | none => exact Nat.zero_le _
    | some x =>
      have h := congrArg List.length (b64_once l x hd)
      rw [b64E_length] at h
      show x.length ≤ l.length
      omega
theorem four4 : ∀ {l : List UInt8}, 4 ≤ l.length → ∃ x0 x1 x2 x3 r4, l = x0 :: x1 :: x2 :: x3 :: r4
  | x0 :: x1 :: x2 :: x3 :: r4, _ => ⟨x0, x1, x2, x3, r4, rfl⟩
theorem w32 {x : Int} (h : 0 ≤ x ∧ x < 4294967296) : IntKind.u32.wrap x = x := by
  simp only [IntKind.wrap, IntKind.signed, IntKind.bits]
  simp
  omega
theorem Sl.setC {w : World} {v : Value} {l : List UInt8} {b o : Nat} {vs : List Value} (h : Sl w v l) (hne : ∀ b', v.ownBlock = some b' → b' ≠ b) : Sl (w.setCells b o vs) v l := by
  obtain ⟨a, c, rfl, hc, h⟩ := h
  refine ⟨a, c, rfl, hc, ?_⟩
  rcases h with h | ⟨b', off, rfl, hb, h⟩
  · exact .inl h
  · exact .inr ⟨b', off, rfl, by rw [setCells_size]; exact hb, fun i hi => (World.cell?_setCells_out _ _ _ _ _ (fun e => absurd e (hne b' rfl))).trans (h i hi)⟩
theorem setC_eq (w : World) (b o : Nat) (v : Value) : (w.setCell ⟨b, o, none⟩ v).drew = w.drew.setCells b o [v] := rfl
theorem setC_eq0 (w : World) (b o : Nat) (v : Value) : w.setCell ⟨b, o, none⟩ v = w.setCells b o [v] := rfl
theorem nb_succ {l : List UInt8} {k i : Nat} (h : Nb l k i) (hi : l[i]? ≠ some 32) : Nb l k (i + 1) := fun j hj hj2 => by
  rcases Nat.lt_or_ge j i with h' | h'
  · exact h j hj h'
  · obtain rfl : j = i := by omega
    exact hi
end Go.Proofs.YtaphjbcnnkoffaaGreatDoor
namespace Go.Proofs.YtaphjbcnnkoffaaGreatDoor
open Go.RowKit TextNum
theorem wp_appSl {o : Oper} {a : Act} {w : World} {K : Act → World → Prop} {Q : Exit → Act → World → Prop} (s x : Operand)
    (ho : o.op = .call { callee := .builtin .append, args := #[s, x], argTypes := #[22, 22] }) (B : Nat) (v vx : Value) (l m : List UInt8) (hs : a.eval s = v) (hown : Own w B v l)
    (hx : a.eval x = vx) (hm : Sl w vx m) (hn : l.length + m.length ≤ 140737488355328) (hB : B ≤ w.heap.size)
    (h : ∀ v' w', Own w' B v' (l ++ m) → Below B w w' → K (a.put o.dst v') w') : Oper.wp Tryz.prog o a w K Q := by
  obtain ⟨ad, c, rfl, hc, hm⟩ := hm
  cases ad with
  | some ad =>
    obtain ⟨i0, hi, hz0, hz1, hz2⟩ := info_parts Tryz.info8
    refine wp_append_own _ s x 22 ho B 5 i0 (.int .u8 0) 1 1 Tryz.underlying22 hi hz0 hz1 hz2 rfl (by decide) v l.length (cb l) hs hown ad m.length c (cb m) hx (by simp [cb]) ?_ (cb_one m) (by unfold maxLen; omega) (by omega) hB ?_
    · rcases hm with rfl | ⟨b, off, e, hb, hcell⟩
      · intro j u hj; simp [cb] at hj
      · cases e
        intro j u hj
        have hjl : j < m.length := by have := (List.getElem?_eq_some_iff.1 hj).1; rwa [cb_length] at this
        rw [cb_get hjl] at hj
        rw [add_plain, hcell j hjl]; exact hj
    · intro v' w' h1 h2 _
      refine h v' w' ?_ ((Below.refl B w).grown h2 hB (fun k hk => (World.ownsRow.lt hown k hk).1))
      unfold Own
      rw [List.length_append, cb_append]
      exact h1
  | none =>
    rcases hm with rfl | ⟨b, off, e, _⟩
    · have hr := run_app_none (ty := o.type) (c := c) hown
      unfold Oper.wp execOp
      simp only [List.length_nil] at hx
      simp only [ho, resolve, invoke, builtin, Sem.run_bind, Sem.run_pure, Result.andThen_ok, List.map_toArray, List.map_cons, List.map_nil, hs, hx, hr]
      exact h v w (by rw [List.append_nil]; exact hown) (Below.refl _ _)
    · cases e
/-- what loose answers -/
def LA (l : List UInt8) (w : World) (e : Ending) (w' : World) : Prop :=
  ∃ x a c, e = .returned (.agg #[.string x.name, .int .u32 (x.hash : Int), .slice a x.bytes.length c]) ∧ Lo l x ∧ Sl w' (.slice a x.bytes.length c) x.bytes ∧ (∀ b, (Value.slice a x.bytes.length c).ownBlock = some b → w.heap.size ≤ b ∧ b < w'.heap.size) ∧ Up w w'
theorem result_cell1 {P : Program} {fn : Func} {q : Tmp} {T : TypeId} (h : fn.results = #[.cell q T]) (tmps : Array Value) (w : World) (b : Nat) (cs : List Value) {d : TypeDesc}
    (hp : tmps.getD q undef = .pointer (some ⟨b, 0, none⟩)) (hc : w.rangeAt b 0 cs) (hu : P.underlying T = some d) (hd : d.isRow = true) (hi : (P.info? T).map (·.size) = some cs.length) : (results fn tmps).run P w = .ok (.agg cs.toArray) w := by
  have hp' : tmps[q]?.getD undef = .pointer (some ⟨b, 0, none⟩) := by simpa using hp
  simp [results, h, hp', asAddr, run_loadVar_mid w b 0 T cs _ hc hu hd hi]
theorem infoR : (Tryz.prog.info? 65).map (·.size) = some 3 := by kernel_rfl
theorem sget32 (s : ByteArray) (i : Nat) (h : i < s.size) : (s.data.toList[i]? = some 32) ↔ ((s[i].toNat : Int) = 32) := by
  rw [sget' s i h, List.getElem?_eq_getElem (by rw [← Go.Lib.size_eq]; exact h), Option.some.injEq]
  constructor
  · intro h; rw [h]; rfl
  · intro h; apply UInt8.toNat_inj.1; have : (32 : UInt8).toNat = 32 := rfl; omega
set_option maxRecDepth 100000 in
set_option maxHeartbeats 4000000 in
theorem loose_walk (s : ByteArray) (hs : s.size ≤ 1048576) (w : World) :
    Calls Tryz.prog 22 #[.string s] w (LA s.data.toList w) := by
  have HZ := Hid.of (Go.Lib.size_eq s)
  have HG := Hid.of (fun i h => sget32 s i h)
  go_enter Tryz.func22, Tryz.ntmps22
  go_wp2
  have hu0 := ((Up.refl w).alloc (Obj.cells #[.string ⟨#[]⟩, .int .u32 0, .slice none 0 0] 65)).alloc (Obj.cells #[.string ⟨#[]⟩, .int .u32 0, .slice none 0 0] 65)
  go_loopw [4] (fun v4 wr => ∃ i : Nat, v4 = .int .i64 (i : Int) ∧ i ≤ s.size ∧ Hid (Nb s.data.toList 0 i) ∧ wr = (w.alloc (Obj.cells #[.string ⟨#[]⟩, .int .u32 0, .slice none 0 0] 65)).alloc (Obj.cells #[.string ⟨#[]⟩, .int .u32 0, .slice none 0 0] 65)) (fun v4 _ => s.size - (intOf v4).toNat)
  case atStart => exact ⟨0, rfl, by omega, fun j _ h => absurd h (Nat.not_lt_zero _), rfl⟩
  case round =>
    obtain ⟨i, rfl, hi, hI, rfl⟩ := hrel
    by_cases hlt : i < s.size
    rotate_left
    · have hlt' : ¬ (i : Int) < (s.size : Int) := by omega
      have HL := Hid.of (show Lo s.data.toList ⟨⟨#[]⟩, 0, []⟩ from lo_zero hI.out (by have := HZ.out; omega) (fun h => by have := HZ.out; omega) (e := i + 1) (fun j h1 h2 => by omega) (Nat.le_refl _) (fun h => by have := HZ.out; omega) (.inr ⟨rfl, by have := HZ.out; omega⟩))
      obtain rfl : i = s.size := by omega
      have hw1 : IntKind.i64.wrap ((s.size : Int) + 1) = (s.size : Int) + 1 := by simp only [IntKind.wrap, IntKind.signed, IntKind.bits]; simp; omega
      have hlt2 : ¬ (s.size : Int) + 1 < (s.size : Int) := by omega
      have hge2 : (s.size : Int) ≤ (s.size : Int) + 1 := by omega
      go_wp2
      go_loopw [5] (fun v5 wr => v5 = .int .i64 ((s.size : Int) + 1) ∧ wr = (w.alloc (Obj.cells #[.string ⟨#[]⟩, .int .u32 0, .slice none 0 0] 65)).alloc (Obj.cells #[.string ⟨#[]⟩, .int .u32 0, .slice none 0 0] 65)) (fun _ _ => 0)
      case atStart => exact ⟨rfl, rfl⟩
      case round =>
        obtain ⟨rfl, rfl⟩ := hrel
        go_wp2
        refine bodyPost_ret (result_cell1 Tryz.results22 _ _ w.heap.size zs rfl (fun k v hv => ?_) Tryz.underlying65 rfl infoR) rfl ?_
        · have h1 : (w.alloc (Obj.cells #[.string ⟨#[]⟩, .int .u32 0, .slice none 0 0] 65)).cell? ⟨w.heap.size, 0 + k, none⟩ = some v := by rw [World.cell?_alloc_at _ _ _ _ rfl, Nat.zero_add]; simpa [zs] using hv
          exact ((Up.refl _).alloc _).cell h1
        · exact ⟨⟨⟨#[]⟩, 0, []⟩, none, 0, rfl, HL.out, ⟨none, 0, rfl, Nat.le_refl _, .inl rfl⟩, fun b hb => (by cases hb), hu0⟩
    have hlt' : (i : Int) < (s.size : Int) := by omega
    by_cases hb : ((s[i]'hlt).toNat : Int) = 32
    rotate_left
    · have HN := Hid.of (nb_succ hI.out (fun h => hb ((HG.out i hlt).1 h)))
      go_wp2
      go_roundw
      case rel => exact ⟨i + 1, by go_num, by omega, HN.out, by simp⟩
      case measure => simp [intOf]; omega
    have HA := Hid.of (And.intro hI.out ((HG.out i hlt).2 hb))
    have hw1 : IntKind.i64.wrap ((i : Int) + 1) = ((i + 1 : Nat) : Int) := by simp only [IntKind.wrap, IntKind.signed, IntKind.bits]; simp; omega
    go_wp2
    clear hb
    go_loopw [5] (fun v5 wr => ∃ j : Nat, v5 = .int .i64 (j : Int) ∧ i + 1 ≤ j ∧ j ≤ s.size ∧ Hid (Nb s.data.toList (i + 1) j) ∧ wr = (w.alloc (Obj.cells #[.string ⟨#[]⟩, .int .u32 0, .slice none 0 0] 65)).alloc (Obj.cells #[.string ⟨#[]⟩, .int .u32 0, .slice none 0 0] 65)) (fun v5 _ => s.size - (intOf v5).toNat)
    case atStart => exact ⟨i + 1, by go_num, by omega, by omega, fun j h1 h2 => by omega, rfl⟩
    case round =>
      obtain ⟨j, rfl, hij, hj, hJ, rfl⟩ := hrel
      by_cases hjl : j < s.size
      rotate_left
      · have hjl' : ¬ (j : Int) < (s.size : Int) := by omega
        have hjg : (s.size : Int) ≤ (j : Int) := by omega
        have HL := Hid.of (show Lo s.data.toList ⟨⟨#[]⟩, 0, []⟩ from lo_zero HA.out.1 (by have := HZ.out; omega) (fun _ => HA.out.2) hJ.out hij (fun h => by have := HZ.out; omega) (.inl (by have := HZ.out; omega)))
        go_wp2
        refine bodyPost_ret (result_cell1 Tryz.results22 _ _ w.heap.size zs rfl (fun k v hv => ?_) Tryz.underlying65 rfl infoR) rfl ?_
        · have h1 : (w.alloc (Obj.cells #[.string ⟨#[]⟩, .int .u32 0, .slice none 0 0] 65)).cell? ⟨w.heap.size, 0 + k, none⟩ = some v := by rw [World.cell?_alloc_at _ _ _ _ rfl, Nat.zero_add]; simpa [zs] using hv
          exact ((Up.refl _).alloc _).cell h1
        · exact ⟨⟨⟨#[]⟩, 0, []⟩, none, 0, rfl, HL.out, ⟨none, 0, rfl, Nat.le_refl _, .inl rfl⟩, fun b hb => (by cases hb), hu0⟩
      have hjl' : (j : Int) < (s.size : Int) := by omega
      have hjg : ¬ (s.size : Int) ≤ (j : Int) := by omega
      by_cases hb : ((s[j]'hjl).toNat : Int) = 32
      rotate_left
      · have HN := Hid.of (nb_succ hJ.out (fun h => hb ((HG.out j hjl).1 h)))
        go_wp2
        go_roundw
        case rel => exact ⟨j + 1, by go_num, by omega, by omega, HN.out, by simp⟩
        case measure => simp [intOf]; omega
      have HB := Hid.of (And.intro hJ.out ((HG.out j hjl).2 hb))
      have hw2 : IntKind.i64.wrap ((j : Int) + 1) = ((j + 1 : Nat) : Int) := by simp only [IntKind.wrap, IntKind.signed, IntKind.bits]; simp; omega
      go_wp2_with fail
      obtain ⟨nm, HNM⟩ : ∃ nm, Hid (s.extract (i + 1) j = nm ∧ nm.data.toList = (s.data.toList.drop (i + 1)).take (j - (i + 1))) := ⟨_, Hid.of ⟨rfl, by simp [ByteArray.data_extract, List.extract_eq_take_drop]⟩⟩
      obtain ⟨cd, HCD⟩ : ∃ cd, Hid (s.extract (j + 1) s.size = cd ∧ cd.data.toList = s.data.toList.drop (j + 1)) := ⟨_, Hid.of ⟨rfl, by
        rw [ByteArray.data_extract, Array.toList_extract, List.extract_eq_take_drop, List.take_of_length_le (by rw [List.length_drop, ← HZ.out]; omega)]⟩⟩
      rw [HNM.out.1, HCD.out.1]
      clear hu0 hb hlt' hjl' hjg hlt hw2
      have hu1 := ((Up.refl w).alloc (Obj.cells #[.string ⟨#[]⟩, .int .u32 0, .slice none 0 0] 65)).alloc (Obj.cells #[.string nm, .int .u32 0, .slice none 0 0] 65)
      have hR : ((w.alloc (Obj.cells #[.string ⟨#[]⟩, .int .u32 0, .slice none 0 0] 65)).alloc (Obj.cells #[.string nm, .int .u32 0, .slice none 0 0] 65)).there w.heap.size 0 3 := there_up (there_new w [.string ⟨#[]⟩, .int .u32 0, .slice none 0 0] 65) (by simp) ((Up.refl _).alloc _)
      have hz0 : (w.alloc (Obj.cells #[.string ⟨#[]⟩, .int .u32 0, .slice none 0 0] 65)).heap.size = w.heap.size + 1 := by simp
      have hG0 := there_new (w.alloc (Obj.cells #[.string ⟨#[]⟩, .int .u32 0, .slice none 0 0] 65)) [.string nm, .int .u32 0, .slice none 0 0] 65
      have hC := cells_new (w.alloc (Obj.cells #[.string ⟨#[]⟩, .int .u32 0, .slice none 0 0] 65)) 65 [.string nm, .int .u32 0, .slice none 0 0]
      have hz1 : ((w.alloc (Obj.cells #[.string ⟨#[]⟩, .int .u32 0, .slice none 0 0] 65)).alloc (Obj.cells #[.string nm, .int .u32 0, .slice none 0 0] 65)).heap.size = w.heap.size + 2 := by simp
      rw [hz0] at hG0 hC
      have hC0 := hC 0 _ rfl
      have hC1 := hC 1 _ rfl
      have hC2 := hC 2 _ rfl
      rw [add_plain, Nat.zero_add] at hC0 hC1 hC2
      change Calls _ _ _ ((w.alloc (Obj.cells #[.string ⟨#[]⟩, .int .u32 0, .slice none 0 0] 65)).alloc (Obj.cells #[.string nm, .int .u32 0, .slice none 0 0] 65)) _
      generalize (w.alloc (Obj.cells #[.string ⟨#[]⟩, .int .u32 0, .slice none 0 0] 65)).alloc (Obj.cells #[.string nm, .int .u32 0, .slice none 0 0] 65) = w1 at *
      clear hC hz0
      refine (RDecode64_walk cd w1).mono ?_
      rintro e w2 ⟨v2, rfl, hO, u2⟩
      have c0 := u2.cell hC0
      have c1 := u2.cell hC1
      have c2 := u2.cell hC2
      have H2 := Hid.of (show w2.there w.heap.size 0 3 ∧ w2.there (w.heap.size + 1) 0 3 ∧ Up w w2 ∧ w.heap.size + 2 ≤ w2.heap.size from ⟨there_up hR (by omega) u2, there_up hG0 (by omega) u2, hu1.trans u2, by rw [← hz1]; exact u2.size⟩)
      rw [hz1] at hO
      have HO := Hid.of hO
      clear u2 hO hC0 hC1 hC2 hR hG0 hu1
      rw [HCD.out.2] at HO ⊢
      have HLO := Hid.of (fun (x : Sg) (hx : okS x) (hl : s.data.toList = sigB x) => lo_at HA.out.1 (by have := HZ.out; omega) (fun _ => HA.out.2) HB.out.1 hij (fun _ => HB.out.2) (.inl (by have := HZ.out; omega)) hx hl)
      have HBR := Hid.of (show b64R (s.data.toList.drop (j + 1)) = b64R (s.data.toList.drop (j + 1)) from rfl)
      generalize hbr : b64R (s.data.toList.drop (j + 1)) = br at HO HBR ⊢
      clear HBR
      have HBR := Hid.of hbr
      clear hbr
      obtain ⟨bl, be⟩ := br
      dsimp only at HO ⊢
      have HNS := Hid.of (show nm.size ≤ s.data.toList.length by rw [Go.Lib.size_eq, HNM.out.2, List.length_take, List.length_drop]; omega)
      obtain ⟨av, cv, rfl⟩ := HO.out.len
      have HBL := Hid.of (show bl.length ≤ s.data.toList.length from by
        have h1 := b64R_len (s.data.toList.drop (j + 1))
        rw [HBR.out, List.length_drop] at h1
        simp only at h1
        omega)
      obtain ⟨nl, hnl⟩ : ∃ nl, bl.length = nl := ⟨_, rfl⟩
      rw [hnl]
      have HBAD := Hid.of (show (be ≠ 0 ∨ nl < 4) → Lo s.data.toList ⟨nm, 0, []⟩ from fun hbad => ⟨⟨show 0 < 4294967296 by decide, HNS.out, Nat.zero_le _⟩, fun x hx _ hxs hl => by
        obtain ⟨rfl, rfl⟩ := HLO.out x hx hl
        have h1 := (lo_parts hxs).2
        rw [← hl, HBR.out] at h1
        injection h1 with h2 h3
        rcases hbad with h | h
        · exact absurd h3 h
        · rw [h2, List.length_append] at hnl
          simp only [hb4, List.length_cons, List.length_nil] at hnl
          omega⟩)
      by_cases hbe : be = 0
      rotate_left
      · have hbe' : (be == 0) = false := by simpa using hbe
        have HL := Hid.of (HBAD.out (.inl hbe))
        go_wp2_with (with_reducible show wpList _ _ _ ({ dst := _, op := Op.store 65 (.tmp 2) _, type := _, pos := _, after := _, guard := _ } :: _) _ _; refine Shut.out ?_)
        show wpList _ _ _ _ _ _
        refine wpList_store_mid rfl _ _ _ rfl w.heap.size 0 #[.string nm, .int .u32 0, .slice none 0 0] rfl rfl (by exact H2.out.1) infoR (by simp [Value.oneCell']) ?_
        simp only [Act.put]
        have hrg := World.rangeAt_setCells_same w2 w.heap.size 0 [.string nm, .int .u32 0, .slice none 0 0] (by exact H2.out.1)
        have HUZ := Hid.of (up_setCells (Nat.le_refl _) [.string nm, .int .u32 0, .slice none 0 0] 0 H2.out.2.2.1)
        generalize World.setCells w2 w.heap.size 0 [.string nm, .int .u32 0, .slice none 0 0] = WZ at *
        go_wp2_with fail
        refine bodyPost_ret (result_cell1 Tryz.results22 _ _ w.heap.size [.string nm, .int .u32 0, .slice none 0 0] rfl hrg Tryz.underlying65 rfl infoR) rfl ?_
        exact ⟨⟨nm, 0, []⟩, none, 0, rfl, HL.out, ⟨none, 0, rfl, Nat.le_refl _, .inl rfl⟩, fun b hb => (by cases hb), HUZ.out⟩
      subst hbe
      by_cases hn4 : nl < 4
      · have hn4' : (nl : Int) < 4 := by omega
        have HL := Hid.of (HBAD.out (.inr hn4))
        go_wp2_with (with_reducible show wpList _ _ _ ({ dst := _, op := Op.store 65 (.tmp 2) _, type := _, pos := _, after := _, guard := _ } :: _) _ _; refine Shut.out ?_)
        show wpList _ _ _ _ _ _
        refine wpList_store_mid rfl _ _ _ rfl w.heap.size 0 #[.string nm, .int .u32 0, .slice none 0 0] rfl rfl (by exact H2.out.1) infoR (by simp [Value.oneCell']) ?_
        simp only [Act.put]
        have hrg := World.rangeAt_setCells_same w2 w.heap.size 0 [.string nm, .int .u32 0, .slice none 0 0] (by exact H2.out.1)
        have HUZ := Hid.of (up_setCells (Nat.le_refl _) [.string nm, .int .u32 0, .slice none 0 0] 0 H2.out.2.2.1)
        generalize World.setCells w2 w.heap.size 0 [.string nm, .int .u32 0, .slice none 0 0] = WZ at *
        go_wp2_with fail
        refine bodyPost_ret (result_cell1 Tryz.results22 _ _ w.heap.size [.string nm, .int .u32 0, .slice none 0 0] rfl hrg Tryz.underlying65 rfl infoR) rfl ?_
        exact ⟨⟨nm, 0, []⟩, none, 0, rfl, HL.out, ⟨none, 0, rfl, Nat.le_refl _, .inl rfl⟩, fun b hb => (by cases hb), HUZ.out⟩
      have hn4' : ¬ (nl : Int) < 4 := by omega
      clear HBAD
      obtain ⟨x0, x1, x2, x3, r4, rfl⟩ := four4 (show 4 ≤ bl.length by omega)
      obtain ⟨g, rfl, hg0, hc0, hc1, hc2, hc3⟩ : ∃ g, av = some ⟨g, 0, none⟩ ∧ w.heap.size + 2 ≤ g ∧ w2.cell? ⟨g, 0, none⟩ = some (.int .u8 (x0.toNat : Int)) ∧ w2.cell? ⟨g, 1, none⟩ = some (.int .u8 (x1.toNat : Int)) ∧ w2.cell? ⟨g, 2, none⟩ = some (.int .u8 (x2.toNat : Int)) ∧ w2.cell? ⟨g, 3, none⟩ = some (.int .u8 (x3.toNat : Int)) := by
        rcases HO.out.2 with ⟨e, _⟩ | ⟨g, cap, cur, e, hb, hg, _⟩
        · injection e with _ e2 _
          simp at e2
        · injection e with e1 _ _
          have hcs := World.ownsRow.cells HO.out (g := g) (by rw [e1]; rfl)
          refine ⟨g, e1, hb, ?_, ?_, ?_, ?_⟩
          · exact hcs 0 _ rfl
          · exact hcs 1 _ rfl
          · exact hcs 2 _ rfl
          · exact hcs 3 _ rfl
      have hsl := HO.out.sl
      rw [hnl] at hsl
      clear HO
      have hgneG : g ≠ w.heap.size + 1 := by omega
      have hgneR : g ≠ w.heap.size := by omega
      have h00 := x0.toNat_lt
      have h01 := x1.toNat_lt
      have h02 := x2.toNat_lt
      have h03 := x3.toNat_lt
      have hnl4 : (4 : Int) ≤ (nl : Int) := by omega
      have q0 : (0 : Int) < (nl : Int) := by omega
      have hnz : ¬ nl = 0 := by omega
      have q1 : (1 : Int) < (nl : Int) := by omega
      have q2 : (2 : Int) < (nl : Int) := by omega
      have q3 : (3 : Int) < (nl : Int) := by omega
      go_wp2_with fail
      refine wp_region_held_drew (S := fun wx => (wx.cell? ⟨g, 0, none⟩ = some (.int .u8 (x0.toNat : Int)) ∧ wx.cell? ⟨g, 1, none⟩ = some (.int .u8 (x1.toNat : Int)) ∧ wx.cell? ⟨g, 2, none⟩ = some (.int .u8 (x2.toNat : Int)) ∧ wx.cell? ⟨g, 3, none⟩ = some (.int .u8 (x3.toNat : Int))) ∧ wx.cell? ⟨w.heap.size + 1, 0, none⟩ = some (.string nm) ∧ wx.cell? ⟨w.heap.size + 1, 2, none⟩ = some (.slice none 0 0) ∧ wx.there (w.heap.size + 1) 0 3 ∧ wx.there w.heap.size 0 3 ∧ Sl wx (.slice (some ⟨g, 0, none⟩) nl cv) (x0 :: x1 :: x2 :: x3 :: r4) ∧ Up w wx ∧ w.heap.size + 2 ≤ wx.heap.size) (by kernel_rfl) ⟨⟨hc0, hc1, hc2, hc3⟩, c0, c2, H2.out.2.1, H2.out.1, hsl.up (Up.refl w2).drew, H2.out.2.2.1.drew, H2.out.2.2.2⟩ (fun hS => ?_)
      have HC1 := Hid.of c1
      clear hc0 hc1 hc2 hc3 hsl H2 c0 c1 c2
      refine wpAnyH_take (i := 0) (oi := { dst := some 61, op := Go.Op.move (Go.Operand.tmp 6), type := 22, pos := "ref.go:342", after := #[], guard := none }) (v := .slice (some ⟨g, 0, none⟩) nl cv) rfl (by kernel_rfl) (by kernel_rfl) (by kernel_rfl) (fun _ _ _ h => h) (Or.inl ⟨by kernel_rfl, ?_⟩) hS ?_
      · intro w5 hSw
        clear hSw hS
        go_simp
      simp only [Act.put, List.setIfInBounds_toArray, List.set_cons_zero, List.set_cons_succ]
      refine wpAnyH_take (i := 1) (oi := { dst := some 62, op := Go.Op.indexAddr 22 (Go.Operand.tmp 61) (Go.Operand.const (Go.Value.int Go.IntKind.i64 0)), type := 0, pos := "ref.go:342", after := #[{ on := 0, ground := Go.Ground.data }], guard := none }) (v := .pointer (some ⟨g, 0, none⟩)) rfl (by kernel_rfl) (by kernel_rfl) (by kernel_rfl) (fun _ _ _ h => h) (Or.inl ⟨by kernel_rfl, ?_⟩) hS ?_
      · intro w5 hSw
        clear hSw hS
        go_simp
      simp only [Act.put, List.setIfInBounds_toArray, List.set_cons_zero, List.set_cons_succ]
      refine wpAnyH_take (i := 2) (oi := { dst := some 63, op := Go.Op.load 5 (Go.Operand.tmp 62), type := 5, pos := "ref.go:342", after := #[{ on := 1, ground := Go.Ground.data }], guard := none }) (v := .int .u8 (x0.toNat : Int)) rfl (by kernel_rfl) (by kernel_rfl) (by kernel_rfl) (fun _ _ _ h => h) (Or.inl ⟨by kernel_rfl, ?_⟩) hS ?_
      · intro w5 hSw
        have h1 := hSw.1.1
        have h2 := hSw.1.2.1
        have h3 := hSw.1.2.2.1
        have h4 := hSw.1.2.2.2
        clear hSw hS
        go_simp
      simp only [Act.put, List.setIfInBounds_toArray, List.set_cons_zero, List.set_cons_succ]
      refine wpAnyH_take (i := 3) (oi := { dst := some 64, op := Go.Op.convert 5 63 (Go.Operand.tmp 63), type := 63, pos := "ref.go:342", after := #[{ on := 2, ground := Go.Ground.data }], guard := none }) (v := .int .u32 (x0.toNat : Int)) rfl (by kernel_rfl) (by kernel_rfl) (by kernel_rfl) (fun _ _ _ h => h) (Or.inl ⟨by kernel_rfl, ?_⟩) hS ?_
      · intro w5 hSw
        clear hSw hS
        go_simp <;> exact w32 (by omega)
      simp only [Act.put, List.setIfInBounds_toArray, List.set_cons_zero, List.set_cons_succ]
      refine wpAnyH_take (i := 4) (oi := { dst := some 65, op := Go.Op.binOp Go.BinOp.shl 63 (Go.Operand.tmp 64) (Go.Operand.const (Go.Value.int Go.IntKind.u64 24)) 97, type := 63, pos := "ref.go:342", after := #[{ on := 3, ground := Go.Ground.data }], guard := none }) (v := .int .u32 ((x0.toNat : Int) * 16777216)) rfl (by kernel_rfl) (by kernel_rfl) (by kernel_rfl) (fun _ _ _ h => h) (Or.inl ⟨by kernel_rfl, ?_⟩) hS ?_
      · intro w5 hSw
        clear hSw hS
        go_simp <;> exact w32 (by omega)
      simp only [Act.put, List.setIfInBounds_toArray, List.set_cons_zero, List.set_cons_succ]
      refine wpAnyH_take (i := 5) (oi := { dst := some 66, op := Go.Op.move (Go.Operand.tmp 6), type := 22, pos := "ref.go:342", after := #[], guard := none }) (v := .slice (some ⟨g, 0, none⟩) nl cv) rfl (by kernel_rfl) (by kernel_rfl) (by kernel_rfl) (fun _ _ _ h => h) (Or.inl ⟨by kernel_rfl, ?_⟩) hS ?_
      · intro w5 hSw
        clear hSw hS
        go_simp
      simp only [Act.put, List.setIfInBounds_toArray, List.set_cons_zero, List.set_cons_succ]
      refine wpAnyH_take (i := 6) (oi := { dst := some 67, op := Go.Op.indexAddr 22 (Go.Operand.tmp 66) (Go.Operand.const (Go.Value.int Go.IntKind.i64 1)), type := 0, pos := "ref.go:342", after := #[{ on := 5, ground := Go.Ground.data }], guard := none }) (v := .pointer (some ⟨g, 1, none⟩)) rfl (by kernel_rfl) (by kernel_rfl) (by kernel_rfl) (fun _ _ _ h => h) (Or.inl ⟨by kernel_rfl, ?_⟩) hS ?_
      · intro w5 hSw
        clear hSw hS
        go_simp
      simp only [Act.put, List.setIfInBounds_toArray, List.set_cons_zero, List.set_cons_succ]
      refine wpAnyH_take (i := 7) (oi := { dst := some 68, op := Go.Op.load 5 (Go.Operand.tmp 67), type := 5, pos := "ref.go:342", after := #[{ on := 6, ground := Go.Ground.data }], guard := none }) (v := .int .u8 (x1.toNat : Int)) rfl (by kernel_rfl) (by kernel_rfl) (by kernel_rfl) (fun _ _ _ h => h) (Or.inl ⟨by kernel_rfl, ?_⟩) hS ?_
      · intro w5 hSw
        have h1 := hSw.1.1
        have h2 := hSw.1.2.1
        have h3 := hSw.1.2.2.1
        have h4 := hSw.1.2.2.2
        clear hSw hS
        go_simp
      simp only [Act.put, List.setIfInBounds_toArray, List.set_cons_zero, List.set_cons_succ]
      refine wpAnyH_take (i := 8) (oi := { dst := some 69, op := Go.Op.convert 5 63 (Go.Operand.tmp 68), type := 63, pos := "ref.go:342", after := #[{ on := 7, ground := Go.Ground.data }], guard := none }) (v := .int .u32 (x1.toNat : Int)) rfl (by kernel_rfl) (by kernel_rfl) (by kernel_rfl) (fun _ _ _ h => h) (Or.inl ⟨by kernel_rfl, ?_⟩) hS ?_
      · intro w5 hSw
        clear hSw hS
        go_simp <;> exact w32 (by omega)
      simp only [Act.put, List.setIfInBounds_toArray, List.set_cons_zero, List.set_cons_succ]
      refine wpAnyH_take (i := 9) (oi := { dst := some 70, op := Go.Op.binOp Go.BinOp.shl 63 (Go.Operand.tmp 69) (Go.Operand.const (Go.Value.int Go.IntKind.u64 16)) 97, type := 63, pos := "ref.go:342", after := #[{ on := 8, ground := Go.Ground.data }], guard := none }) (v := .int .u32 ((x1.toNat : Int) * 65536)) rfl (by kernel_rfl) (by kernel_rfl) (by kernel_rfl) (fun _ _ _ h => h) (Or.inl ⟨by kernel_rfl, ?_⟩) hS ?_
      · intro w5 hSw
        clear hSw hS
        go_simp <;> exact w32 (by omega)
      simp only [Act.put, List.setIfInBounds_toArray, List.set_cons_zero, List.set_cons_succ]
      refine wpAnyH_take (i := 10) (oi := { dst := some 71, op := Go.Op.binOp Go.BinOp.add 63 (Go.Operand.tmp 65) (Go.Operand.tmp 70) 63, type := 63, pos := "ref.go:342", after := #[{ on := 4, ground := Go.Ground.data }, { on := 9, ground := Go.Ground.data }], guard := none }) (v := .int .u32 ((x0.toNat : Int) * 16777216 + (x1.toNat : Int) * 65536)) rfl (by kernel_rfl) (by kernel_rfl) (by kernel_rfl) (fun _ _ _ h => h) (Or.inl ⟨by kernel_rfl, ?_⟩) hS ?_
      · intro w5 hSw
        clear hSw hS
        go_simp <;> exact w32 (by omega)
      simp only [Act.put, List.setIfInBounds_toArray, List.set_cons_zero, List.set_cons_succ]
      refine wpAnyH_take (i := 11) (oi := { dst := some 72, op := Go.Op.move (Go.Operand.tmp 6), type := 22, pos := "ref.go:342", after := #[], guard := none }) (v := .slice (some ⟨g, 0, none⟩) nl cv) rfl (by kernel_rfl) (by kernel_rfl) (by kernel_rfl) (fun _ _ _ h => h) (Or.inl ⟨by kernel_rfl, ?_⟩) hS ?_
      · intro w5 hSw
        clear hSw hS
        go_simp
      simp only [Act.put, List.setIfInBounds_toArray, List.set_cons_zero, List.set_cons_succ]
      refine wpAnyH_take (i := 12) (oi := { dst := some 73, op := Go.Op.indexAddr 22 (Go.Operand.tmp 72) (Go.Operand.const (Go.Value.int Go.IntKind.i64 2)), type := 0, pos := "ref.go:342", after := #[{ on := 11, ground := Go.Ground.data }], guard := none }) (v := .pointer (some ⟨g, 2, none⟩)) rfl (by kernel_rfl) (by kernel_rfl) (by kernel_rfl) (fun _ _ _ h => h) (Or.inl ⟨by kernel_rfl, ?_⟩) hS ?_
      · intro w5 hSw
        clear hSw hS
        go_simp
      simp only [Act.put, List.setIfInBounds_toArray, List.set_cons_zero, List.set_cons_succ]
      refine wpAnyH_take (i := 13) (oi := { dst := some 74, op := Go.Op.load 5 (Go.Operand.tmp 73), type := 5, pos := "ref.go:342", after := #[{ on := 12, ground := Go.Ground.data }], guard := none }) (v := .int .u8 (x2.toNat : Int)) rfl (by kernel_rfl) (by kernel_rfl) (by kernel_rfl) (fun _ _ _ h => h) (Or.inl ⟨by kernel_rfl, ?_⟩) hS ?_
      · intro w5 hSw
        have h1 := hSw.1.1
        have h2 := hSw.1.2.1
        have h3 := hSw.1.2.2.1
        have h4 := hSw.1.2.2.2
        clear hSw hS
        go_simp
      simp only [Act.put, List.setIfInBounds_toArray, List.set_cons_zero, List.set_cons_succ]
      refine wpAnyH_take (i := 14) (oi := { dst := some 75, op := Go.Op.convert 5 63 (Go.Operand.tmp 74), type := 63, pos := "ref.go:342", after := #[{ on := 13, ground := Go.Ground.data }], guard := none }) (v := .int .u32 (x2.toNat : Int)) rfl (by kernel_rfl) (by kernel_rfl) (by kernel_rfl) (fun _ _ _ h => h) (Or.inl ⟨by kernel_rfl, ?_⟩) hS ?_
      · intro w5 hSw
        clear hSw hS
        go_simp <;> exact w32 (by omega)
      simp only [Act.put, List.setIfInBounds_toArray, List.set_cons_zero, List.set_cons_succ]
      refine wpAnyH_take (i := 15) (oi := { dst := some 76, op := Go.Op.binOp Go.BinOp.shl 63 (Go.Operand.tmp 75) (Go.Operand.const (Go.Value.int Go.IntKind.u64 8)) 97, type := 63, pos := "ref.go:342", after := #[{ on := 14, ground := Go.Ground.data }], guard := none }) (v := .int .u32 ((x2.toNat : Int) * 256)) rfl (by kernel_rfl) (by kernel_rfl) (by kernel_rfl) (fun _ _ _ h => h) (Or.inl ⟨by kernel_rfl, ?_⟩) hS ?_
      · intro w5 hSw
        clear hSw hS
        go_simp <;> exact w32 (by omega)
      simp only [Act.put, List.setIfInBounds_toArray, List.set_cons_zero, List.set_cons_succ]
      refine wpAnyH_take (i := 16) (oi := { dst := some 77, op := Go.Op.binOp Go.BinOp.add 63 (Go.Operand.tmp 71) (Go.Operand.tmp 76) 63, type := 63, pos := "ref.go:342", after := #[{ on := 10, ground := Go.Ground.data }, { on := 15, ground := Go.Ground.data }], guard := none }) (v := .int .u32 ((x0.toNat : Int) * 16777216 + (x1.toNat : Int) * 65536 + (x2.toNat : Int) * 256)) rfl (by kernel_rfl) (by kernel_rfl) (by kernel_rfl) (fun _ _ _ h => h) (Or.inl ⟨by kernel_rfl, ?_⟩) hS ?_
      · intro w5 hSw
        clear hSw hS
        go_simp <;> exact w32 (by omega)
      simp only [Act.put, List.setIfInBounds_toArray, List.set_cons_zero, List.set_cons_succ]
      refine wpAnyH_take (i := 17) (oi := { dst := some 78, op := Go.Op.move (Go.Operand.tmp 6), type := 22, pos := "ref.go:342", after := #[], guard := none }) (v := .slice (some ⟨g, 0, none⟩) nl cv) rfl (by kernel_rfl) (by kernel_rfl) (by kernel_rfl) (fun _ _ _ h => h) (Or.inl ⟨by kernel_rfl, ?_⟩) hS ?_
      · intro w5 hSw
        clear hSw hS
        go_simp
      simp only [Act.put, List.setIfInBounds_toArray, List.set_cons_zero, List.set_cons_succ]
      refine wpAnyH_take (i := 18) (oi := { dst := some 79, op := Go.Op.indexAddr 22 (Go.Operand.tmp 78) (Go.Operand.const (Go.Value.int Go.IntKind.i64 3)), type := 0, pos := "ref.go:342", after := #[{ on := 17, ground := Go.Ground.data }], guard := none }) (v := .pointer (some ⟨g, 3, none⟩)) rfl (by kernel_rfl) (by kernel_rfl) (by kernel_rfl) (fun _ _ _ h => h) (Or.inl ⟨by kernel_rfl, ?_⟩) hS ?_
      · intro w5 hSw
        clear hSw hS
        go_simp
      simp only [Act.put, List.setIfInBounds_toArray, List.set_cons_zero, List.set_cons_succ]
      refine wpAnyH_take (i := 19) (oi := { dst := some 80, op := Go.Op.load 5 (Go.Operand.tmp 79), type := 5, pos := "ref.go:342", after := #[{ on := 18, ground := Go.Ground.data }], guard := none }) (v := .int .u8 (x3.toNat : Int)) rfl (by kernel_rfl) (by kernel_rfl) (by kernel_rfl) (fun _ _ _ h => h) (Or.inl ⟨by kernel_rfl, ?_⟩) hS ?_
      · intro w5 hSw
        have h1 := hSw.1.1
        have h2 := hSw.1.2.1
        have h3 := hSw.1.2.2.1
        have h4 := hSw.1.2.2.2
        clear hSw hS
        go_simp
      simp only [Act.put, List.setIfInBounds_toArray, List.set_cons_zero, List.set_cons_succ]
      refine wpAnyH_take (i := 20) (oi := { dst := some 81, op := Go.Op.convert 5 63 (Go.Operand.tmp 80), type := 63, pos := "ref.go:342", after := #[{ on := 19, ground := Go.Ground.data }], guard := none }) (v := .int .u32 (x3.toNat : Int)) rfl (by kernel_rfl) (by kernel_rfl) (by kernel_rfl) (fun _ _ _ h => h) (Or.inl ⟨by kernel_rfl, ?_⟩) hS ?_
      · intro w5 hSw
        clear hSw hS
        go_simp <;> exact w32 (by omega)
      simp only [Act.put, List.setIfInBounds_toArray, List.set_cons_zero, List.set_cons_succ]
      refine wpAnyH_take (i := 21) (oi := { dst := some 82, op := Go.Op.binOp Go.BinOp.add 63 (Go.Operand.tmp 77) (Go.Operand.tmp 81) 63, type := 63, pos := "ref.go:342", after := #[{ on := 16, ground := Go.Ground.data }, { on := 20, ground := Go.Ground.data }], guard := none }) (v := .int .u32 ((x0.toNat : Int) * 16777216 + (x1.toNat : Int) * 65536 + (x2.toNat : Int) * 256 + (x3.toNat : Int))) rfl (by kernel_rfl) (by kernel_rfl) (by kernel_rfl) (fun _ _ _ h => h) (Or.inl ⟨by kernel_rfl, ?_⟩) hS ?_
      · intro w5 hSw
        clear hSw hS
        go_simp <;> exact w32 (by omega)
      simp only [Act.put, List.setIfInBounds_toArray, List.set_cons_zero, List.set_cons_succ]
      refine wpAnyH_take (i := 22) (oi := { dst := some 83, op := Go.Op.fieldAddr 65 (Go.Operand.tmp 3) 1, type := 0, pos := "ref.go:342", after := #[{ on := 0, ground := Go.Ground.phase }, { on := 1, ground := Go.Ground.phase }, { on := 2, ground := Go.Ground.phase }, { on := 3, ground := Go.Ground.phase }, { on := 4, ground := Go.Ground.phase }, { on := 5, ground := Go.Ground.phase }, { on := 6, ground := Go.Ground.phase }, { on := 7, ground := Go.Ground.phase }, { on := 8, ground := Go.Ground.phase }, { on := 9, ground := Go.Ground.phase }, { on := 10, ground := Go.Ground.phase }, { on := 11, ground := Go.Ground.phase }, { on := 12, ground := Go.Ground.phase }, { on := 13, ground := Go.Ground.phase }, { on := 14, ground := Go.Ground.phase }, { on := 15, ground := Go.Ground.phase }, { on := 16, ground := Go.Ground.phase }, { on := 17, ground := Go.Ground.phase }, { on := 18, ground := Go.Ground.phase }, { on := 19, ground := Go.Ground.phase }, { on := 20, ground := Go.Ground.phase }, { on := 21, ground := Go.Ground.phase }], guard := none }) (v := .pointer (some ⟨w.heap.size + 1, 1, none⟩)) rfl (by kernel_rfl) (by kernel_rfl) (by kernel_rfl) (fun _ _ _ h => h) (Or.inl ⟨by kernel_rfl, ?_⟩) hS ?_
      · intro w5 hSw
        clear hSw hS
        go_simp
      simp only [Act.put, List.setIfInBounds_toArray, List.set_cons_zero, List.set_cons_succ]
      refine wpAnyH_ready (rs := [23]) (by kernel_rfl) (by simp) ?_
      refine AllReadyH.cons (o := { dst := none, op := Go.Op.store 63 (Go.Operand.tmp 83) (Go.Operand.tmp 82), type := 0, pos := "ref.go:342", after := #[{ on := 22, ground := Go.Ground.data }, { on := 21, ground := Go.Ground.data }, { on := 0, ground := Go.Ground.phase }, { on := 1, ground := Go.Ground.phase }, { on := 2, ground := Go.Ground.phase }, { on := 3, ground := Go.Ground.phase }, { on := 4, ground := Go.Ground.phase }, { on := 5, ground := Go.Ground.phase }, { on := 6, ground := Go.Ground.phase }, { on := 7, ground := Go.Ground.phase }, { on := 8, ground := Go.Ground.phase }, { on := 9, ground := Go.Ground.phase }, { on := 10, ground := Go.Ground.phase }, { on := 11, ground := Go.Ground.phase }, { on := 12, ground := Go.Ground.phase }, { on := 13, ground := Go.Ground.phase }, { on := 14, ground := Go.Ground.phase }, { on := 15, ground := Go.Ground.phase }, { on := 16, ground := Go.Ground.phase }, { on := 17, ground := Go.Ground.phase }, { on := 18, ground := Go.Ground.phase }, { on := 19, ground := Go.Ground.phase }, { on := 20, ground := Go.Ground.phase }, { on := 21, ground := Go.Ground.phase }], guard := none }) rfl (fun K hK => ?_) AllReadyH.nil
      rw [if_pos (by kernel_rfl)]
      have hcG := HC1.out
      have hfG := (hS.2.2.2.1 1 (by decide)).2
      rw [Nat.zero_add] at hfG
      obtain ⟨hh, hhe, HHH⟩ : ∃ hh : Nat, (x0.toNat : Int) * 16777216 + (x1.toNat : Int) * 65536 + (x2.toNat : Int) * 256 + (x3.toNat : Int) = (hh : Int) ∧ Hid (hh = h4 (x0 :: x1 :: x2 :: x3 :: r4)) := ⟨h4 (x0 :: x1 :: x2 :: x3 :: r4), by simp only [h4, List.getD_cons_zero, List.getD_cons_succ]; omega, Hid.of rfl⟩
      rw [hhe]
      have HS := Hid.of hS
      clear hS
      go_simp
      clear hcG hfG hhe HC1
      have hS2 : ((w2.setCell ⟨w.heap.size + 1, 1, none⟩ (.int .u32 (hh : Int))).drew.cell? ⟨w.heap.size + 1, 1, none⟩ = some (.int .u32 (hh : Int))) ∧ (fun wx => (wx.cell? ⟨g, 0, none⟩ = some (.int .u8 (x0.toNat : Int)) ∧ wx.cell? ⟨g, 1, none⟩ = some (.int .u8 (x1.toNat : Int)) ∧ wx.cell? ⟨g, 2, none⟩ = some (.int .u8 (x2.toNat : Int)) ∧ wx.cell? ⟨g, 3, none⟩ = some (.int .u8 (x3.toNat : Int))) ∧ wx.cell? ⟨w.heap.size + 1, 0, none⟩ = some (.string nm) ∧ wx.cell? ⟨w.heap.size + 1, 2, none⟩ = some (.slice none 0 0) ∧ wx.there (w.heap.size + 1) 0 3 ∧ wx.there w.heap.size 0 3 ∧ Sl wx (.slice (some ⟨g, 0, none⟩) nl cv) (x0 :: x1 :: x2 :: x3 :: r4) ∧ Up w wx ∧ w.heap.size + 2 ≤ wx.heap.size) (w2.setCell ⟨w.heap.size + 1, 1, none⟩ (.int .u32 (hh : Int))).drew := by
        have hT := HS.out
        rw [setC_eq]
        have hgl : ∀ k, (w2.drew.setCells (w.heap.size + 1) 1 [.int .u32 (hh : Int)]).cell? ⟨g, k, none⟩ = w2.drew.cell? ⟨g, k, none⟩ := fun k => World.cell?_setCells_out _ _ _ _ _ (fun e => absurd e hgneG)
        have hGl : ∀ k, k ≠ 1 → (w2.drew.setCells (w.heap.size + 1) 1 [.int .u32 (hh : Int)]).cell? ⟨w.heap.size + 1, k, none⟩ = w2.drew.cell? ⟨w.heap.size + 1, k, none⟩ := fun k hk => World.cell?_setCells_out _ _ _ _ _ (fun _ => by simp; omega)
        refine ⟨?_, ⟨(hgl 0).trans hT.1.1, (hgl 1).trans hT.1.2.1, (hgl 2).trans hT.1.2.2.1, (hgl 3).trans hT.1.2.2.2⟩, (hGl 0 (by decide)).trans hT.2.1, (hGl 2 (by decide)).trans hT.2.2.1, World.there_setCells hT.2.2.2.1 _ _ _, World.there_setCells hT.2.2.2.2.1 _ _ _, Sl.setC hT.2.2.2.2.2.1 (fun b' e => by have e' : some g = some b' := e; injection e' with e'; omega), up_setCells (Nat.le_succ _) _ 1 hT.2.2.2.2.2.2.1, by rw [setCells_size]; exact hT.2.2.2.2.2.2.2⟩
        exact World.rangeAt_setCells_same w2.drew (w.heap.size + 1) 1 [.int .u32 (hh : Int)] (fun k hk => by obtain rfl : k = 0 := (by simpa using hk); have := hT.2.2.2.1 1 (by decide); rw [Nat.zero_add] at this; exact this) 0 _ rfl
      generalize (w2.setCell ⟨w.heap.size + 1, 1, none⟩ (.int .u32 (hh : Int))).drew = w3 at *
      have HG1 := Hid.of hS2.1
      refine hK.out _ _ hS2.2 (fun hS => ?_)
      clear hK hS2 K HS
      have HS := Hid.of hS
      clear hS
      refine wpAnyH_done (by kernel_rfl) ?_ _
      go_wp2_with fail
      obtain ⟨sa, sn, sc, HSD⟩ : ∃ sa sn sc, Hid (sliced (some ⟨g, 0, none⟩) 4 nl cv 1 = .slice sa sn sc) := ⟨_, _, _, Hid.of rfl⟩
      refine wp_region_held_drew (S := fun _ => True) (by kernel_rfl) True.intro (fun hS => ?_)
      refine wpAnyH_take (i := 0) (oi := { dst := some 84, op := Go.Op.fieldAddr 65 (Go.Operand.tmp 3) 2, type := 0, pos := "ref.go:343", after := #[], guard := none }) (v := .pointer (some ⟨w.heap.size + 1, 2, none⟩)) rfl (by kernel_rfl) (by kernel_rfl) (by kernel_rfl) (fun _ _ _ h => h) (Or.inl ⟨by kernel_rfl, ?_⟩) hS ?_
      · intro w5 hSw
        clear hSw
        go_simp
      simp only [Act.put, List.setIfInBounds_toArray, List.set_cons_zero, List.set_cons_succ]
      refine wpAnyH_take (i := 2) (oi := { dst := some 86, op := Go.Op.move (Go.Operand.tmp 6), type := 22, pos := "ref.go:343", after := #[], guard := none }) (v := .slice (some ⟨g, 0, none⟩) nl cv) rfl (by kernel_rfl) (by kernel_rfl) (by kernel_rfl) (fun _ _ _ h => h) (Or.inl ⟨by kernel_rfl, ?_⟩) hS ?_
      · intro w5 hSw
        clear hSw
        go_simp
      simp only [Act.put, List.setIfInBounds_toArray, List.set_cons_zero, List.set_cons_succ]
      refine wpAnyH_take (i := 3) (oi := { dst := some 87, op := Go.Op.slice 22 (Go.Operand.tmp 86) (some (Go.Operand.const (Go.Value.int Go.IntKind.i64 4))) none none, type := 22, pos := "ref.go:343", after := #[{ on := 2, ground := Go.Ground.data }], guard := none }) (v := .slice sa sn sc) rfl (by kernel_rfl) (by kernel_rfl) (by kernel_rfl) (fun _ _ _ h => h) (Or.inl ⟨by kernel_rfl, ?_⟩) hS ?_
      · intro w5 hSw
        clear hSw
        rw [← HSD.out]; go_simp <;> (intro h; exact absurd h (by omega))
      simp only [Act.put, List.setIfInBounds_toArray, List.set_cons_zero, List.set_cons_succ]
      refine wpAnyH_ready (rs := [1]) (by kernel_rfl) (by simp) ?_
      refine AllReadyH.cons (o := { dst := some 85, op := Go.Op.load 22 (Go.Operand.tmp 84), type := 22, pos := "ref.go:343", after := #[{ on := 0, ground := Go.Ground.data }], guard := none }) rfl (fun K hK => ?_) AllReadyH.nil
      rw [if_pos (by kernel_rfl)]
      have hcG := HS.out.2.2.1
      go_simp
      clear hcG
      refine hK.out _ _ True.intro (fun _ => ?_)
      clear hK K
      refine wpAnyH_ready (rs := [4]) (by kernel_rfl) (by simp) ?_
      refine AllReadyH.cons (o := { dst := some 88, op := Go.Op.call { callee := Go.Callee.builtin Go.Builtin.append, args := #[Go.Operand.tmp 85, Go.Operand.tmp 87], argTypes := #[22, 22] }, type := 22, pos := "ref.go:343", after := #[{ on := 1, ground := Go.Ground.data }, { on := 3, ground := Go.Ground.data }], guard := none }) rfl (fun K hK => ?_) AllReadyH.nil
      rw [if_pos (by kernel_rfl)]
      have hsd : Sl w3.drew (.slice sa sn sc) r4 := by
        have := sliced_drop (HS.out.2.2.2.2.2.1.up (Up.refl w3).drew) (k := 4) (by simp)
        rw [HSD.out] at this
        exact this
      refine wp_appSl (Operand.tmp 85) (Operand.tmp 87) rfl w3.heap.size (.slice none 0 0) (.slice sa sn sc) [] r4 rfl (World.ownsRow_nil _ _ 5 1) rfl hsd (by have := HBL.out; have := HZ.out; simp only [List.length_cons, List.length_nil] at *; omega) (Nat.le_refl _) ?_
      intro vb w4 hO4 b4
      rw [List.nil_append] at hO4
      simp only [Act.put, List.setIfInBounds_toArray, List.set_cons_zero, List.set_cons_succ]
      have u4 : Up w3 w4 := Below.trans (Up.refl w3).drew b4
      obtain ⟨ab, cbb, rfl⟩ := hO4.len
      have H4 := Hid.of (And.intro hO4 u4)
      clear hO4 b4 u4 hsd
      refine hK.out _ _ True.intro (fun _ => ?_)
      clear hK K
      obtain ⟨nr, hnr⟩ : ∃ nr, r4.length = nr := ⟨_, rfl⟩
      rw [hnr]
      refine wpAnyH_take (i := 5) (oi := { dst := some 89, op := Go.Op.fieldAddr 65 (Go.Operand.tmp 3) 2, type := 0, pos := "ref.go:343", after := #[{ on := 0, ground := Go.Ground.phase }, { on := 1, ground := Go.Ground.phase }, { on := 2, ground := Go.Ground.phase }, { on := 3, ground := Go.Ground.phase }, { on := 4, ground := Go.Ground.phase }], guard := none }) (v := .pointer (some ⟨w.heap.size + 1, 2, none⟩)) rfl (by kernel_rfl) (by kernel_rfl) (by kernel_rfl) (fun _ _ _ h => h) (Or.inl ⟨by kernel_rfl, ?_⟩) hS ?_
      · intro w5 hSw
        clear hSw
        go_simp
      simp only [Act.put, List.setIfInBounds_toArray, List.set_cons_zero, List.set_cons_succ]
      refine wpAnyH_ready (rs := [6]) (by kernel_rfl) (by simp) ?_
      refine AllReadyH.cons (o := { dst := none, op := Go.Op.store 22 (Go.Operand.tmp 89) (Go.Operand.tmp 88), type := 0, pos := "ref.go:343", after := #[{ on := 5, ground := Go.Ground.data }, { on := 4, ground := Go.Ground.data }, { on := 4, ground := Go.Ground.chain }, { on := 0, ground := Go.Ground.phase }, { on := 1, ground := Go.Ground.phase }, { on := 2, ground := Go.Ground.phase }, { on := 3, ground := Go.Ground.phase }, { on := 4, ground := Go.Ground.phase }], guard := none }) rfl (fun K hK => ?_) AllReadyH.nil
      rw [if_pos (by kernel_rfl)]
      have hcG := H4.out.2.cell HS.out.2.2.1
      have hfG := (there_up HS.out.2.2.2.1 (by have := HS.out.2.2.2.2.2.2.2; omega) H4.out.2 2 (by decide)).2
      rw [Nat.zero_add] at hfG
      go_simp
      clear hcG hfG
      refine hK.out _ _ True.intro (fun _ => ?_)
      clear hK K
      refine wpAnyH_done (by kernel_rfl) ?_ _
      have H5 : (w4.setCell ⟨w.heap.size + 1, 2, none⟩ (.slice ab nr cbb)).cell? ⟨w.heap.size + 1, 0, none⟩ = some (.string nm) ∧ (w4.setCell ⟨w.heap.size + 1, 2, none⟩ (.slice ab nr cbb)).cell? ⟨w.heap.size + 1, 1, none⟩ = some (.int .u32 (hh : Int)) ∧ (w4.setCell ⟨w.heap.size + 1, 2, none⟩ (.slice ab nr cbb)).cell? ⟨w.heap.size + 1, 2, none⟩ = some (.slice ab nr cbb) ∧ Hid ((w4.setCell ⟨w.heap.size + 1, 2, none⟩ (.slice ab nr cbb)).there w.heap.size 0 3 ∧ Sl (w4.setCell ⟨w.heap.size + 1, 2, none⟩ (.slice ab nr cbb)) (.slice ab nr cbb) r4 ∧ (∀ b, (Value.slice ab nr cbb).ownBlock = some b → w.heap.size + 2 ≤ b ∧ b < (w4.setCell ⟨w.heap.size + 1, 2, none⟩ (.slice ab nr cbb)).heap.size) ∧ Up w (w4.setCell ⟨w.heap.size + 1, 2, none⟩ (.slice ab nr cbb))) := by
        have hT := HS.out
        have hz := hT.2.2.2.2.2.2.2
        have hGl : ∀ k, k ≠ 2 → (w4.setCells (w.heap.size + 1) 2 [.slice ab nr cbb]).cell? ⟨w.heap.size + 1, k, none⟩ = w4.cell? ⟨w.heap.size + 1, k, none⟩ := fun k hk => World.cell?_setCells_out _ _ _ _ _ (fun _ => by simp; omega)
        have hlt : ∀ b, (Value.slice ab nr cbb).ownBlock = some b → w3.heap.size ≤ b ∧ b < w4.heap.size := fun b hb => World.ownsRow.lt H4.out.1 b (by rw [hnr]; exact hb)
        have hsl := H4.out.1.sl
        rw [hnr] at hsl
        rw [setC_eq0]
        refine ⟨(hGl 0 (by decide)).trans (H4.out.2.cell hT.2.1), (hGl 1 (by decide)).trans (H4.out.2.cell HG1.out), ?_, Hid.of ⟨World.there_setCells (there_up hT.2.2.2.2.1 (by omega) H4.out.2) _ _ _, hsl.setC (fun b' e => by have := (hlt b' e).1; omega), fun b hb => ⟨by have := (hlt b hb).1; omega, by rw [setCells_size]; exact (hlt b hb).2⟩, up_setCells (Nat.le_succ _) _ 2 (hT.2.2.2.2.2.2.1.trans H4.out.2)⟩⟩
        exact World.rangeAt_setCells_same w4 (w.heap.size + 1) 2 [.slice ab nr cbb] (fun k hk => by obtain rfl : k = 0 := (by simpa using hk); have := there_up hT.2.2.2.1 (by omega) H4.out.2 2 (by decide); rw [Nat.zero_add] at this; exact this) 0 _ rfl
      generalize w4.setCell ⟨w.heap.size + 1, 2, none⟩ (.slice ab nr cbb) = w5 at *
      obtain ⟨c0, c1, c2, H5⟩ := H5
      clear H4 HS HG1 HSD
      go_wp2_with (with_reducible show wpList _ _ _ ({ dst := _, op := Op.store 65 (.tmp 2) _, type := _, pos := _, after := _, guard := _ } :: _) _ _; refine Shut.out ?_)
      show wpList _ _ _ _ _ _
      refine wpList_store_mid rfl _ _ _ rfl w.heap.size 0 #[.string nm, .int .u32 (hh : Int), .slice ab nr cbb] rfl rfl (by exact H5.out.1) infoR (by simp [Value.oneCell']) ?_
      simp only [Act.put]
      have hrg := World.rangeAt_setCells_same w5 w.heap.size 0 [.string nm, .int .u32 (hh : Int), .slice ab nr cbb] (by exact H5.out.1)
      have HUZ := Hid.of (show Sl (w5.setCells w.heap.size 0 [.string nm, .int .u32 (hh : Int), .slice ab nr cbb]) (.slice ab nr cbb) r4 ∧ (∀ b, (Value.slice ab nr cbb).ownBlock = some b → w.heap.size ≤ b ∧ b < (w5.setCells w.heap.size 0 [.string nm, .int .u32 (hh : Int), .slice ab nr cbb]).heap.size) ∧ Up w (w5.setCells w.heap.size 0 [.string nm, .int .u32 (hh : Int), .slice ab nr cbb]) from
        ⟨H5.out.2.1.setC (fun b' e => by have := (H5.out.2.2.1 b' e).1; omega), fun b hb => ⟨by have := (H5.out.2.2.1 b hb).1; omega, by rw [setCells_size]; exact (H5.out.2.2.1 b hb).2⟩, up_setCells (Nat.le_refl _) _ 0 H5.out.2.2.2⟩)
      generalize World.setCells w5 w.heap.size 0 [.string nm, .int .u32 (hh : Int), .slice ab nr cbb] = WZ at *
      go_wp2_with fail
      refine bodyPost_ret (result_cell1 Tryz.results22 _ _ w.heap.size [.string nm, .int .u32 (hh : Int), .slice ab nr cbb] rfl hrg Tryz.underlying65 rfl infoR) rfl ?_
      subst hnr
      refine ⟨⟨nm, hh, r4⟩, ab, cbb, rfl, ⟨⟨by rw [HHH.out]; exact h4_lt _, HNS.out, by have := HBL.out; simp only [List.length_cons] at this; simp only; omega⟩, fun x hx hxh hxs hl => ?_⟩, HUZ.out⟩
      obtain ⟨rfl, rfl⟩ := HLO.out x hx hl
      have hp := lo_parts hxs
      rw [← hl, HBR.out] at hp
      obtain ⟨hp1, hp2⟩ := hp
      injection hp2 with hp2 _
      have e1 : nm = x.name := ba_list7 (by rw [HNM.out.2, show 4 + x.name.size - (3 + 1) = x.name.size by omega]; exact hp1)
      have e2 : hh = x.hash := by rw [HHH.out, hp2, h4_hb4 hxh]
      have e3 : r4 = x.bytes := by
        have := congrArg (List.drop 4) hp2
        exact this
      rw [e1, e2, e3]
end Go.Proofs.YtaphjbcnnkoffaaGreatDoor
namespace Go.Proofs.YtaphjbcnnkoffaaGreatDoor
open Go.RowKit TextNum
/-- what was read of a tail: whole lines, each loosely taken, and a rest without an end -/
def Rd7 (tl : List UInt8) (ls : List (List UInt8)) (ss : List Sg) (rest : List UInt8) : Prop := tl = joinL ls ++ rest ∧ (10 : UInt8) ∉ rest ∧ (∀ x, x ∈ ls → (10 : UInt8) ∉ x) ∧ ss.length = ls.length ∧ ∀ k (h : k < ls.length) (h' : k < ss.length), Lo ls[k] ss[k]
theorem joinL_end : ∀ (ls : List (List UInt8)), ls = [] ∨ (joinL ls).getLast? = some 10
  | [] => .inl rfl
  | x :: r => .inr (joinL_last _ (by simp))
theorem rd7_one {m : List UInt8} {t : ByteArray} {ss ss' : List Sg} {ls : List (List UInt8)} {rest : List UInt8} {i : Nat} (hm : m.length ≤ 65536) (hb : bk m i) (hlast : ∀ j, i < j → ¬ bk m j) (hr : Rd7 (m.drop (i + 2)) ls ss' rest) (h : Spl m t ss) : t.data.toList = m.take (i + 1) ∧ ss' = ss := by
  obtain ⟨hL, hF, hfm, hhs⟩ := spl_fmt h hm
  obtain ⟨i', hb', hn', ht, hok, h0, hne, h16, hrd⟩ := h
  obtain rfl : i = i' := by
    rcases Nat.lt_trichotomy i i' with h | h | h
    · exact absurd hb' (hlast _ h)
    · exact h
    · exact absurd hb (hn' _ h)
  refine ⟨ht, ?_⟩
  obtain ⟨e1, e2⟩ := rdL_lines hrd
  have hj : joinL (linesOf (m.drop (i + 2))) = m.drop (i + 2) := by
    refine join_lines _ ?_
    unfold lnE at h0
    split at h0
    · cases h0
    · split at h0
      · assumption
      · cases h0
  obtain ⟨r1, r2, r3, r4, r5⟩ := hr
  have hrest : rest = [] := by
    rcases List.eq_nil_or_concat rest with h | ⟨q, y, h⟩
    · exact h
    · exfalso
      rw [r1, h] at hj
      rcases joinL_end (linesOf (m.drop (i + 2))) with hz | hz
      · rw [e1] at hz
        exact hne (by rw [e1]; exact hz)
      · rw [show joinL ls ++ q.concat y = (joinL ls ++ q) ++ [y] by simp] at hj
        have : (joinL (linesOf (m.drop (i + 2)))).getLast? = some y := by
          rw [show m.drop (i + 2) = joinL ls ++ q ++ [y] by rw [r1, h]; simp, hj]
          simp
        rw [hz] at this
        injection this with this
        exact r2 (by rw [h, ← this]; simp)
  have hls : linesOf (m.drop (i + 2)) = ls := by
    rw [r1, hrest, List.append_nil]
    exact lines_join _ r3
  rw [e1] at hls
  subst hls
  unfold Lng at hL
  simp only [not_or, Nat.not_lt] at hL
  have hn2 := hL.2
  unfold nlen at hn2
  rw [List.length_map] at r4
  refine List.ext_getElem r4 (fun k h1 h2 => ?_)
  have h3 := r5 k (by rw [List.length_map]; exact h2) h1
  rw [List.getElem_map] at h3
  have hmem := List.getElem_mem h2
  have := sgLen_le hmem
  exact h3.2 ss[k] (e2 _ hmem).1 (e2 _ hmem).2 (by omega) rfl
theorem bk_ext (s : ByteArray) (k : Nat) (h : k + 2 ≤ s.size) : s.extract k (k + 2) = ⟨#[10, 10]⟩ ↔ bk s.data.toList k := by
  have hs := Go.Lib.size_eq s
  have e : (s.extract k (k + 2)).data.toList = [s.data.toList[k]'(by omega), s.data.toList[k + 1]'(by omega)] := by
    rw [ByteArray.data_extract, Array.toList_extract, List.extract_eq_take_drop, show k + 2 - k = 2 by omega, List.drop_eq_getElem_cons (by omega), List.take_succ_cons, List.drop_eq_getElem_cons (by omega), List.take_succ_cons, List.take_zero]
  unfold bk
  rw [List.getElem?_eq_getElem (by omega), List.getElem?_eq_getElem (by omega), Option.some.injEq, Option.some.injEq]
  constructor
  · intro h1
    rw [h1] at e
    simp only [List.cons.injEq, and_true] at e
    exact ⟨e.1.symm, e.2.symm⟩
  · intro h1
    refine ba_list7 ?_
    rw [e, h1.1, h1.2]
theorem bk_ext7 (s : ByteArray) (k : Nat) (h : k + 2 ≤ s.size) : ((s.extract k (k + 2)).toList == [10, 10]) = true ↔ bk s.data.toList k := by
  rw [← bk_ext s k h, Go.Lib.toList_data, beq_iff_eq]
  constructor
  · intro h; exact ba_list7 h
  · intro h; rw [h]
/-- one more line -/
theorem joinL_snoc (ls : List (List UInt8)) (x : List UInt8) : joinL (ls ++ [x]) = joinL ls ++ (x ++ [10]) := by
  rw [joinL_app7]
  simp [joinL]
/-- how far the reading has come -/
def At7 (m : List UInt8) (b0 fr i : Nat) (ls : List (List UInt8)) (ss : List Sg) : Prop := b0 ≤ fr ∧ fr ≤ i ∧ (m.drop b0).take (fr - b0) = joinL ls ∧ (∀ j, fr ≤ j → j < i → m[j]? ≠ some 10) ∧ (∀ x, x ∈ ls → (10 : UInt8) ∉ x) ∧ ss.length = ls.length ∧ ls.length ≤ fr ∧ ∀ k (h : k < ls.length) (h' : k < ss.length), Lo ls[k] ss[k]
theorem at7_skip {m : List UInt8} {b0 fr i : Nat} {ls : List (List UInt8)} {ss : List Sg} (h : At7 m b0 fr i ls ss) (hi : m[i]? ≠ some 10) : At7 m b0 fr (i + 1) ls ss := by
  obtain ⟨h1, h2, h3, h4, h5⟩ := h
  refine ⟨h1, by omega, h3, fun j hj hj2 => ?_, h5⟩
  rcases Nat.lt_or_ge j i with h | h
  · exact h4 j hj h
  · obtain rfl : j = i := by omega
    exact hi
theorem no_mem {m : List UInt8} {fr i : Nat} (hi : i ≤ m.length) (h : ∀ j, fr ≤ j → j < i → m[j]? ≠ some 10) : (10 : UInt8) ∉ (m.drop fr).take (i - fr) := by
  intro hm
  obtain ⟨k, hk, e⟩ := List.getElem_of_mem hm
  rw [List.length_take, List.length_drop] at hk
  rw [List.getElem_take, List.getElem_drop] at e
  exact h (fr + k) (by omega) (by omega) (by rw [List.getElem?_eq_getElem (by omega), e])
theorem at7_line {m : List UInt8} {b0 fr i : Nat} {ls : List (List UInt8)} {ss : List Sg} (h : At7 m b0 fr i ls ss) (hi : m[i]? = some 10) {s : Sg} (hs : Lo ((m.drop fr).take (i - fr)) s) : At7 m b0 (i + 1) (i + 1) (ls ++ [(m.drop fr).take (i - fr)]) (ss ++ [s]) := by
  obtain ⟨h1, h2, h3, h4, h5, h6, h7, h8⟩ := h
  have hil := (List.getElem?_eq_some_iff.1 hi).1
  have hie := (List.getElem?_eq_some_iff.1 hi).2
  refine ⟨by omega, Nat.le_refl _, ?_, fun j a b => by omega, fun x hx => ?_, by simp [h6], by simp; omega, fun k hk hk' => ?_⟩
  · rw [joinL_snoc, ← h3]
    have e1 : (m.drop b0).take (i + 1 - b0) = (m.drop b0).take (fr - b0) ++ ((m.drop b0).drop (fr - b0)).take (i + 1 - fr) := by
      rw [show i + 1 - b0 = (fr - b0) + (i + 1 - fr) by omega, List.take_add]
    rw [e1, List.drop_drop, show b0 + (fr - b0) = fr by omega, show i + 1 - fr = (i - fr) + 1 by omega, List.take_succ_eq_append_getElem (by rw [List.length_drop]; omega), List.getElem_drop]
    congr 3
    rw [← hie]
    congr 1
    omega
  · rcases List.mem_append.1 hx with hx | hx
    · exact h5 x hx
    · obtain rfl := List.mem_singleton.1 hx
      exact no_mem (by omega) h4
  · rcases Nat.lt_or_ge k ls.length with hl | hl
    · rw [List.getElem_append_left hl, List.getElem_append_left (by omega)]
      exact h8 k hl (by omega)
    · have hk2 : k = ls.length := by simp at hk; omega
      subst hk2
      rw [List.getElem_append_right (Nat.le_refl _), List.getElem_append_right (by omega)]
      simp [h6]
      exact hs
theorem at7_end {m : List UInt8} {b0 fr : Nat} {ls : List (List UInt8)} {ss : List Sg} (h : At7 m b0 fr m.length ls ss) : Rd7 (m.drop b0) ls ss (m.drop fr) := by
  obtain ⟨h1, h2, h3, h4, h5, h6, h7, h8⟩ := h
  refine ⟨?_, ?_, h5, h6, h8⟩
  · rw [← h3]
    conv => lhs; rw [← List.take_append_drop (fr - b0) (m.drop b0), List.drop_drop, show b0 + (fr - b0) = fr by omega]
  · have := no_mem (Nat.le_refl _) h4
    rwa [List.take_of_length_le (by rw [List.length_drop]; omega)] at this
end Go.Proofs.YtaphjbcnnkoffaaGreatDoor
namespace Go.Proofs.YtaphjbcnnkoffaaGreatDoor
open Go.RowKit TextNum
theorem own_nil7 (w : World) (B : Nat) : Own w B (.slice none 0 0) [] := World.ownsRow_nil w B 5 1
theorem ownG_nil7 (w : World) (B : Nat) (e : TypeId) : OwnG w B e (.slice none 0 0) [] := ⟨World.ownsRow_nil w B e 3, by simp⟩
end Go.Proofs.YtaphjbcnnkoffaaGreatDoor
namespace Go.Proofs.YtaphjbcnnkoffaaGreatDoor
open Go.RowKit TextNum
set_option maxRecDepth 100000 in
theorem sgT2 : SgT 39 65 := sgT_of Tryz.underlying39 (by kernel_rfl)
theorem fr_zero8 {t : ByteArray} {ss : List Sg} {er : Int} (h : FRB t ss er) (h1 : ¬ Lng t ss) (h2 : Fine t ss) : er = 0 := by
  rcases h with ⟨_, h⟩ | ⟨_, _, h⟩ | ⟨h, _⟩
  · exact absurd h h1
  · exact absurd h2 h
  · exact h
theorem fr_fine8 {t : ByteArray} {ss : List Sg} (h : FRB t ss 0) : ¬ Lng t ss ∧ Fine t ss := by
  rcases h with ⟨h, _⟩ | ⟨h, _⟩ | ⟨_, h⟩
  · cases h
  · cases h
  · exact h
theorem mem_join {x : List UInt8} : ∀ {xs : List (List UInt8)}, x ∈ xs → x.length ≤ (joinL xs).length
  | y :: r, h => by
    rw [joinL_cons, List.length_append, List.length_cons]
    rcases List.mem_cons.1 h with rfl | h
    · omega
    · have := mem_join h; omega
theorem sget10 (s : ByteArray) (i : Nat) (h : i < s.size) : (s.data.toList[i]? = some 10) ↔ ((s[i].toNat : Int) = 10) := by
  rw [sget' s i h, List.getElem?_eq_getElem (by rw [← Go.Lib.size_eq]; exact h), Option.some.injEq]
  constructor
  · intro h; rw [h]; rfl
  · intro h; apply UInt8.toNat_inj.1; have : (10 : UInt8).toNat = 10 := rfl; omega
def SA3 (m : List UInt8) (w : World) (e : Ending) (w' : World) : Prop := ∃ t v qs er, e = .returned (.tuple #[.string t, v, .int .i64 er]) ∧ SRB m t (qs.map (·.1)) er ∧ OwnG w' w.heap.size 65 v qs ∧ (∀ q, q ∈ qs → ∀ b, (qv q).ownBlock = some b → w.heap.size ≤ b) ∧ Up w w' ∧ (er ≠ 0 → t = ⟨#[]⟩ ∧ v = .slice none 0 0 ∧ qs = [])
set_option maxRecDepth 100000 in
set_option maxHeartbeats 4000000 in
theorem RSplit_walk (v : Value) (m : List UInt8) (w : World) (hS : Sl w v m) (hT : BTab w) :
    Calls Tryz.prog 10 #[v] w (SA3 m w) := by
  have HT := Hid.of hT
  have HC := Hid.of (conv_sl hS)
  clear hT
  obtain ⟨a, c, rfl, hc, hS⟩ := hS
  obtain ⟨n, hn⟩ : ∃ n, m.length = n := ⟨_, rfl⟩
  rw [hn] at hc HC ⊢
  clear hS
  go_enter Tryz.func10, Tryz.ntmps10
  by_cases hL : 65536 < n
  · have hL' : (65536 : Int) < (n : Int) := by omega
    go_wp2
    go_ret3
    exact ⟨_, _, [], _, rfl, .inl ⟨rfl, by omega⟩, ownG_nil7 _ _ _, by simp, Up.refl _, fun _ => ⟨rfl, rfl, rfl⟩⟩
  have hL' : ¬ (65536 : Int) < (n : Int) := by omega
  have hcv := HC.out
  obtain ⟨s, HS⟩ : ∃ s : ByteArray, Hid (vs m = .string s ∧ s.data.toList = m) := ⟨⟨m.toArray⟩, Hid.of ⟨rfl, rfl⟩⟩
  rw [HS.out.1] at hcv
  have hsz : s.size = n := by rw [Go.Lib.size_eq, HS.out.2, hn]
  have hw0 : IntKind.i64.wrap ((n : Int) - 2) = (n : Int) - 2 := by simp only [IntKind.wrap, IntKind.signed, IntKind.bits]; simp; omega
  have HB := Hid.of (fun k h => bk_ext7 s k h)
  have HG := Hid.of (fun i h => sget10 s i h)
  rw [HS.out.2] at HG
  rw [HS.out.2] at HB
  go_wp2
  clear hcv
  go_loopw [6] (fun v6 wr => ∃ z : Int, v6 = .int .i64 z ∧ z ≤ (n : Int) - 2 ∧ -2 ≤ z ∧ Hid (∀ j : Nat, z < (j : Int) → ¬ bk m j) ∧ wr = w) (fun v6 _ => (intOf v6 + 3).toNat)
  case atStart => exact ⟨(n : Int) - 2, rfl, by omega, by omega, Hid.of (fun j hj hb => by have := (List.getElem?_eq_some_iff.1 hb.2).1; omega), rfl⟩
  case round =>
    obtain ⟨z, rfl, hz1, hz2, hI, hwr⟩ := hrel
    obtain rfl : w = wr := hwr.symm
    clear hwr
    by_cases hz : 0 ≤ z
    rotate_left
    · have hz' : z < 0 := by omega
      have HN := Hid.of (show ¬ ∃ t ss, Spl m t ss from fun ⟨t, ss, i, hb, _⟩ => hI.out i (by omega) hb)
      go_wp2
      go_ret3
      exact ⟨_, _, [], _, rfl, .inr (.inl ⟨rfl, by omega, HN.out⟩), ownG_nil7 _ _ _, by simp, Up.refl _, fun _ => ⟨rfl, rfl, rfl⟩⟩
    obtain ⟨k, rfl⟩ := Int.eq_ofNat_of_zero_le hz
    have hk2 : k + 2 ≤ n := by omega
    have hw2 : IntKind.i64.wrap ((k : Int) + 2) = ((k + 2 : Nat) : Int) := by simp only [IntKind.wrap, IntKind.signed, IntKind.bits]; simp; omega
    have hkk : (k : Int) ≤ ((k + 2 : Nat) : Int) := by omega
    have hkn : ((k + 2 : Nat) : Int) ≤ (n : Int) := by omega
    cases hb : ((s.extract k (k + 2)).toList == [10, 10]) with
    | false =>
      have HN := Hid.of (show ∀ j : Nat, (k : Int) - 1 < (j : Int) → ¬ bk m j from fun j hj hbk => by
        rcases Nat.lt_or_ge k j with h | h
        · exact hI.out j (by omega) hbk
        · obtain rfl : j = k := by omega
          have := (HB.out j (by omega)).2 hbk
          rw [hb] at this
          cases this)
      go_wp2
      exact ⟨⟨(k : Int) - 1, rfl, by omega, by omega, HN, by simp⟩, by simp [intOf]; omega⟩
    | true =>
      have HBK := Hid.of (show bk m k ∧ ∀ j, k < j → ¬ bk m j from ⟨(HB.out k (by omega)).1 hb, fun j hj => hI.out j (by omega)⟩)
      clear HB hI
      go_wp2
      clear hb hkk hkn hz2 hz1
      go_loopw [7, 8, 9] (fun v7 v8 v9 wr => ∃ fr i : Nat, v8 = .int .i64 (fr : Int) ∧ v9 = .int .i64 (i : Int) ∧ i ≤ n ∧ fr ≤ i ∧ Hid (∃ ls qs, OwnG wr w.heap.size 65 v7 qs ∧ At7 m (k + 2) fr i ls (qs.map (·.1)) ∧ Up w wr ∧ ∀ q, q ∈ qs → ∀ b, (qv q).ownBlock = some b → w.heap.size ≤ b)) (fun _ _ v9 _ => n - (intOf v9).toNat)
      case atStart => exact ⟨k + 2, k + 2, by go_num, by go_num, by omega, Nat.le_refl _, [], [], ownG_nil7 _ _ _, ⟨Nat.le_refl _, Nat.le_refl _, by simp [joinL], fun j a b => by omega, by simp, rfl, Nat.zero_le _, fun j h => absurd h (Nat.not_lt_zero _)⟩, Up.refl _, by simp⟩
      case round =>
        obtain ⟨fr, i, rfl, rfl, hi, hfi, hI⟩ := hrel
        obtain ⟨ls, qs, hI1, hI2, hI3, hI4⟩ := hI.out
        have HI := Hid.of (And.intro hI1 (And.intro hI2 hI3))
        have HLB := Hid.of hI4
        clear hI hI1 hI2 hI3 hI4
        by_cases hlt : i < n
        · have hlt' : (i : Int) < (n : Int) := by omega
          have hlts : i < s.size := by omega
          by_cases hx : ((s[i]'hlts).toNat : Int) = 10
          rotate_left
          · have HN := Hid.of (at7_skip HI.out.2.1 (fun h => hx ((HG.out i hlts).1 h)))
            go_wp2
            go_roundw
            case rel => exact ⟨fr, i + 1, rfl, by go_num, by omega, by omega, ls, qs, HI.out.1, HN.out, HI.out.2.2, HLB.out⟩
            case measure => simp [intOf]; omega
          have H10 := Hid.of ((HG.out i hlts).2 hx)
          have hfi' : (fr : Int) ≤ (i : Int) := by omega
          have hin' : (i : Int) ≤ (n : Int) := by omega
          go_wp2_with fail
          obtain ⟨sl, HSL⟩ : ∃ sl, Hid (s.extract fr i = sl ∧ sl.data.toList = (m.drop fr).take (i - fr)) := ⟨_, Hid.of ⟨rfl, by rw [ByteArray.data_extract, Array.toList_extract, List.extract_eq_take_drop, HS.out.2]⟩⟩
          rw [HSL.out.1]
          clear hx
          refine (loose_walk sl (by rw [Go.Lib.size_eq, HSL.out.2, List.length_take]; omega) wr).mono ?_
          rintro e w3 ⟨y, a3, c3, rfl, hlo, hs3, hb3, u3⟩
          rw [HSL.out.2] at hlo
          have H3 := Hid.of (And.intro (at7_line HI.out.2.1 H10.out hlo) (And.intro hs3 (And.intro hb3 u3)))
          clear hlo hs3 hb3 u3
          obtain ⟨nb, hnb⟩ : ∃ nb, y.bytes.length = nb := ⟨_, rfl⟩
          rw [hnb]
          dsimp only
          go_wp2_with (with_reducible show wpList _ _ _ ({ dst := _, op := Op.call { callee := Callee.builtin Builtin.append, args := _, argTypes := _ }, type := _, pos := _, after := _, guard := _ } :: _) _ _; refine Shut.out ?_)
          show wpList _ _ _ _ _ _
          subst hnb
          have UU := Hid.of ((Up.refl w3).alloc (.cells #[.string y.name, .int .u32 (y.hash : Int), .slice a3 y.bytes.length c3] 65))
          refine wpList_appG sgT2 rfl _ _ rfl w.heap.size _ qs (y, a3, c3) rfl (by exact (HI.out.1.up H3.out.2.2.2).up UU.out) ⟨w3.heap.size, 0, none⟩ 1 rfl ?_ (by exact H3.out.2.1.up UU.out) ?_ (by have h1 := HI.out.2.1.2.2.2.2.2.1; have h2 := HI.out.2.1.2.2.2.2.2.2.1; rw [List.length_map] at h1; omega) (Nat.le_trans (HI.out.2.2.trans H3.out.2.2.2).size UU.out.size) ?_
          · intro j u hj
            exact cells_new w3 65 (qc (y, a3, c3)) j u hj
          · intro b hb
            have h1 := H3.out.2.2.1 b hb
            refine ⟨Nat.lt_of_lt_of_le h1.2 UU.out.size, fun h2 => ?_⟩
            have := (World.ownsRow.lt HI.out.1.1 b h2).2
            omega
          intro v7 w7 hO7 b7
          simp only [Act.put, List.setIfInBounds_toArray, List.set_cons_zero, List.set_cons_succ]
          have HN := Hid.of (show ∃ ls qs, OwnG w7 w.heap.size 65 v7 qs ∧ At7 m (k + 2) (i + 1) (i + 1) ls (qs.map (·.1)) ∧ Up w w7 ∧ ∀ q, q ∈ qs → ∀ b, (qv q).ownBlock = some b → w.heap.size ≤ b from ⟨_, qs ++ [(y, a3, c3)], hO7, by rw [List.map_append]; exact H3.out.1, ((HI.out.2.2.trans H3.out.2.2.2).trans UU.out).step (Nat.le_refl _) b7, fun q hq b hb => by
            rcases List.mem_append.1 hq with hq | hq
            · exact HLB.out q hq b hb
            · obtain rfl := List.mem_singleton.1 hq
              exact Nat.le_trans HI.out.2.2.size (H3.out.2.2.1 b hb).1⟩)
          clear hO7 b7 UU H3
          generalize y.bytes.length = nb
          go_wp2
          go_roundw
          case rel => exact ⟨i + 1, i + 1, by go_num, by go_num, by omega, Nat.le_refl _, HN⟩
          case measure => simp [intOf]; omega
        · have hlt' : ¬ (i : Int) < (n : Int) := by omega
          have hin : i = m.length := by omega
          have HE := Hid.of (at7_end (by rw [← hin]; exact HI.out.2.1))
          clear hin
          have hw1 : IntKind.i64.wrap ((k : Int) + 1) = ((k + 1 : Nat) : Int) := by simp only [IntKind.wrap, IntKind.signed, IntKind.bits]; simp; omega
          have hk1 : ((k + 1 : Nat) : Int) ≤ (n : Int) := by omega
          go_wp2_with fail
          obtain ⟨t, HTT⟩ : ∃ t, Hid (s.extract 0 (k + 1) = t ∧ t.data.toList = m.take (k + 1)) := ⟨_, Hid.of ⟨rfl, by rw [ByteArray.data_extract, Array.toList_extract, List.extract_eq_take_drop, HS.out.2]; simp⟩⟩
          rw [HTT.out.1]
          have HLo := Hid.of (show ∀ x, x ∈ qs.map (·.1) → x.hash < 4294967296 ∧ x.name.size ≤ 65536 ∧ x.bytes.length ≤ 65536 from fun x hx => by
            obtain ⟨q, hq, e⟩ := List.getElem_of_mem hx
            obtain ⟨h1, h2, h3, h4, h5, h6, h7, h8⟩ := HI.out.2.1
            have h9 := (h8 q (by omega) hq).1
            rw [e] at h9
            have h10 : (ls[q]'(by omega)).length ≤ 65536 := by
              have h11 : (ls[q]'(by omega)).length ≤ (joinL ls).length := mem_join (List.getElem_mem _)
              rw [← h3, List.length_take, List.length_drop] at h11
              omega
            exact ⟨h9.1, by omega, by omega⟩)
          refine (RFmtN_walk t (by rw [Go.Lib.size_eq, HTT.out.2, List.length_take]; omega) u7 (qs.map (·.1)) wr HI.out.1.sigL (fun x hx => by have := HLo.out x hx; omega) (fun x hx => (HLo.out x hx).1) (BTab_up HT.out HI.out.2.2)).mono ?_
          rintro e w8 ⟨v8, er, rfl, hfr, hsl, hnil, u8⟩
          have H8 := Hid.of (And.intro hfr (And.intro hsl (And.intro (HI.out.2.2.trans u8) (HI.out.1.up u8))))
          clear hsl u8
          have HSp := Hid.of (show (∃ t ss, Spl m t ss) → er = 0 ∧ fmtN t.data.toList (qs.map (·.1)) = m from fun ⟨t', ss', h⟩ => by
            obtain ⟨e1, e2⟩ := rd7_one (by omega) HBK.out.1 HBK.out.2 HE.out h
            obtain rfl : t = t' := ba_list7 (HTT.out.2.trans e1.symm)
            obtain ⟨g1, g2, g3, _⟩ := spl_fmt h (by omega)
            subst e2
            exact ⟨fr_zero8 hfr g1 g2, g3⟩)
          dsimp only
          by_cases her : er = 0
          rotate_left
          · have her' : (er == 0) = false := by simpa using her
            obtain rfl := hnil her
            have HN := Hid.of (show ¬ ∃ t ss, Spl m t ss from fun h => her (HSp.out h).1)
            replace H8 := Hid.of H8.out.2.2.1
            clear hfr hnil HSp
            go_wp2
            go_ret3
            exact ⟨_, _, [], _, rfl, .inr (.inl ⟨rfl, by omega, HN.out⟩), ownG_nil7 _ _ _, by simp, H8.out, fun _ => ⟨rfl, rfl, rfl⟩⟩
          subst her
          have hcv := conv_sl (H8.out.2.1 rfl)
          obtain ⟨q, HQ⟩ : ∃ q : ByteArray, Hid (vs (fmtN t.data.toList (qs.map (·.1))) = .string q ∧ q.data.toList = fmtN t.data.toList (qs.map (·.1))) := ⟨⟨(fmtN t.data.toList (qs.map (·.1))).toArray⟩, Hid.of ⟨rfl, rfl⟩⟩
          rw [HQ.out.1] at hcv
          have HFF := Hid.of (fr_fine8 hfr)
          obtain ⟨a8, c8, hv8⟩ : ∃ a8 c8, v8 = .slice a8 (fmtN t.data.toList (qs.map (·.1))).length c8 := by
            obtain ⟨a8, c8, e, _⟩ := H8.out.2.1 rfl
            exact ⟨a8, c8, e⟩
          subst hv8
          generalize (fmtN t.data.toList (qs.map (·.1))).length = n8 at *
          clear hfr hnil
          replace H8 := Hid.of H8.out.2.2
          by_cases hq : q = s
          · have HSP := Hid.of (show Spl m t (qs.map (·.1)) from by
              have h1 := (split_fmt HFF.out.1 HFF.out.2 (fun x hx => (HLo.out x hx).1)).1
              rwa [← HQ.out.2, hq, HS.out.2] at h1)
            subst hq
            go_wp2
            go_ret3
            exact ⟨t, _, qs, 0, by rw [← HTT.out.1]; rfl, .inr (.inr ⟨rfl, by omega, HSP.out⟩), by exact H8.out.2, HLB.out, H8.out.1, fun h => absurd rfl h⟩
          · have hq' : (q.toList == s.toList) = false := by
              rw [Go.Lib.toList_data, Go.Lib.toList_data, beq_eq_false_iff_ne]
              exact fun e => hq (ba_list7 e)
            have HN := Hid.of (show ¬ ∃ t ss, Spl m t ss from fun h => hq (ba_list7 (by rw [HQ.out.2, (HSp.out h).2, HS.out.2])))
            clear hq
            go_wp2
            go_ret3
            exact ⟨_, _, [], _, rfl, .inr (.inl ⟨rfl, by omega, HN.out⟩), ownG_nil7 _ _ _, by simp, H8.out.1, fun _ => ⟨rfl, rfl, rfl⟩⟩
end Go.Proofs.YtaphjbcnnkoffaaGreatDoor
namespace Go.Proofs.YtaphjbcnnkoffaaGreatDoor
open Go.RowKit Go.Shelf TextNum ModNum
theorem results_tmp4S {fn : Func} {t u v x : Tmp} (h : fn.results = #[.tmp t, .tmp u, .tmp v, .tmp x]) (tmps : Array Value) (P : Program) (w : World) :
    (results fn tmps).run P w = .ok (.tuple #[tmps.getD t undef, tmps.getD u undef, tmps.getD v undef, tmps.getD x undef]) w := by
  simp [results, h]
/-- what ParseLookup answers, the program's and the document's -/
def PLK (l : List UInt8) (w : World) (e : Ending) (w' : World) : Prop := ∃ n rc hv er, e = .returned (.tuple #[.int .i64 n, .string ⟨rc.toArray⟩, hv, .int .i64 er]) ∧ Up w w' ∧
  ((er = 0 ∧ ∃ m, GOOD l n rc m ∧ Sl w' hv m) ∨ (er = 172 ∧ n = 0 ∧ rc = [] ∧ hv = .slice none 0 0 ∧ ¬ ∃ n rc m, GOOD l n rc m))
theorem PLK.no {l : List UInt8} {w w' : World} (u : Up w w') (h : ¬ ∃ n rc m, GOOD l n rc m) : PLK l w (.returned (.tuple #[.int .i64 0, .string ⟨#[]⟩, .slice none 0 0, .int .i64 172])) w' := ⟨0, [], _, 172, rfl, u, .inr ⟨rfl, rfl, rfl, rfl, h⟩⟩
theorem PLK.fix (l : List UInt8) : ∃ (N : Int) (S : ByteArray) (M : List UInt8) (E : Int), ((∃ n rc m, GOOD l n rc m) ∨ E = 172) ∧ M.length ≤ 65536 ∧ ∀ w e w', PLK l w e w' → ∃ hv, e = .returned (.tuple #[.int .i64 N, .string S, hv, .int .i64 E]) ∧ Up w w' ∧ Sl w' hv M := by
  rcases Classical.em (∃ n rc m, GOOD l n rc m) with hg | hg
  · obtain ⟨n, rc, m, g⟩ := hg
    obtain ⟨_, _, _, _, hm, _⟩ := id g
    refine ⟨n, ⟨rc.toArray⟩, m, 0, .inl ⟨n, rc, m, g⟩, hm, fun w e w' h => ?_⟩
    obtain ⟨n', rc', hv, er, rfl, u, h⟩ := h
    rcases h with ⟨rfl, m', g', h⟩ | ⟨_, _, _, _, h⟩
    · obtain ⟨rfl, rfl, rfl⟩ := g.one g'
      exact ⟨hv, rfl, u, h⟩
    · exact absurd ⟨n, rc, m, g⟩ h
  · refine ⟨0, ⟨#[]⟩, [], 172, .inr rfl, by simp, fun w e w' h => ?_⟩
    obtain ⟨n', rc', hv, er, rfl, u, h⟩ := h
    rcases h with ⟨rfl, m', g', h⟩ | ⟨rfl, rfl, rfl, rfl, h⟩
    · exact absurd ⟨n', rc', m', g'⟩ hg
    · exact ⟨_, rfl, u, ⟨none, 0, rfl, Nat.le_refl _, .inl rfl⟩⟩
set_option maxRecDepth 100000 in
set_option maxHeartbeats 4000000 in
theorem ParseLookup_walk {a : Option Addr} {n0 c : Nat} {l : List UInt8} (hl : l.length ≤ 1048576) (w : World) (h : Sl w (.slice a n0 c) l) (hG : GR w) (hT : TabL w) (hW : Go.Lib.WhiteTab 5 w) (hN : GN w) : Calls Tryz.prog 4 #[.slice a n0 c] w (PLK l w) := by
  have hR := readLookup_walk hl w h hG hT hW hN
  clear h hG hT hW hN
  go_enter Tryz.func4, Tryz.ntmps4
  go_wp2_with fail
  refine hR.mono ?_
  rintro e w1 ⟨u1, h1⟩
  have HU1 := Hid.of u1
  clear hR u1
  rcases h1 with ⟨n, rc, m, hv, g, rfl, hs⟩ | ⟨hno, rfl⟩
  · obtain ⟨a2, n2, c2, rfl⟩ : ∃ a n c, hv = .slice a n c := by
      obtain ⟨a, c, e, _⟩ := hs
      exact ⟨_, _, _, e⟩
    have HGD := Hid.of g
    have HSS := Hid.of hs
    clear g hs
    obtain ⟨sR, hsR⟩ : ∃ t, (⟨rc.toArray⟩ : ByteArray) = t := ⟨_, rfl⟩
    have HRS := Hid.of hsR
    rw [hsR]
    clear hsR
    dsimp only
    go_wp2_with (with_reducible show wpList _ _ _ ({ dst := _, op := Op.store 30 _ _, type := _, pos := _, after := _, guard := _ } :: _) _ _; refine Shut.out ?_)
    show wpList _ _ _ _ _ _
    refine wpList_store_at rfl _ _ _ rfl w1.heap.size (at_new w1 30 z3L) [.int .i64 n, .string sR, .slice a2 n2 c2] rfl rfl rfl (by kernel_rfl) (by kernel_rfl) fun w5 hA5 hg5 => ?_
    have HU5 := Hid.of (show Up w1 w5 from ((Up.refl w1).alloc _).by hg5 (fun g hg => by have e : w1.heap.size = g := Option.some.inj hg; omega))
    have k0 := hA5.cell (i := 0) (v := .int .i64 n) rfl
    have k1 := hA5.cell (i := 1) (v := .string sR) rfl
    have k2 := hA5.cell (i := 2) (v := .slice a2 n2 c2) rfl
    clear hA5 hg5
    generalize w1.heap.size = bq at *
    simp only [Act.put]
    go_wp2
    go_quiet (fail)
    go_wp2
    refine bodyPost_ret (results_tmp4S rfl _ _ _) rfl ?_
    exact ⟨n, rc, _, 0, by rw [HRS.out]; rfl, (HU1.out.trans HU5.out).drewN _, .inl ⟨rfl, m, HGD.out, HSS.out.up (HU5.out.drewN _)⟩⟩
  · have HNO := Hid.of hno
    clear hno
    dsimp only
    go_wp2_with (with_reducible show wpList _ _ _ ({ dst := _, op := Op.store 30 _ _, type := _, pos := _, after := _, guard := _ } :: _) _ _; refine Shut.out ?_)
    show wpList _ _ _ _ _ _
    refine wpList_store_at rfl _ _ _ rfl w1.heap.size (at_new w1 30 z3L) z3L rfl rfl rfl (by kernel_rfl) (by kernel_rfl) fun w5 hA5 hg5 => ?_
    have HU5 := Hid.of (show Up w1 w5 from ((Up.refl w1).alloc _).by hg5 (fun g hg => by have e : w1.heap.size = g := Option.some.inj hg; omega))
    clear hA5 hg5
    simp only [Act.put]
    go_wp2
    refine bodyPost_ret (results_tmp4S rfl _ _ _) rfl ?_
    exact PLK.no (HU1.out.trans HU5.out) HNO.out
set_option maxRecDepth 100000 in
set_option maxHeartbeats 1000000 in
/-- the document's end -/
theorem end_walk (s : ByteArray) (hs : s.size ≤ 1048576) (n : Nat) (hn : 1 ≤ n) (hn3 : n ≤ 3) (w : World) : Calls Tryz.prog 7 #[.string s, .int .i64 (n : Int)] w fun e w' => e = .returned (.int .i64 (enP s.data.toList n 0)) ∧ w' = w := by
  have HS := Hid.of (Go.Lib.size_eq s)
  go_enter Tryz.func7, Tryz.ntmps7
  go_wp2
  go_loopw [1, 5] (fun v1 v5 wr => ∃ i k : Nat, v5 = .int .i64 (i : Int) ∧ v1 = .int .i64 (k : Int) ∧ i ≤ s.size ∧ 1 ≤ k ∧ k ≤ 3 ∧ wr = w ∧ Hid (enP s.data.toList n 0 = enP (s.data.toList.drop i) k (i : Int))) (fun _ v5 _ => s.size - (intOf v5).toNat)
  case atStart => exact ⟨0, n, rfl, rfl, by omega, hn, hn3, rfl, rfl⟩
  case round =>
    obtain ⟨i, k, rfl, rfl, hi, hk, hk3, hwr, HI⟩ := hrel
    obtain rfl := hwr.symm
    clear hwr
    by_cases hlt : i < s.size
    · have hltz : (i : Int) < (s.size : Int) := by omega
      have hlL : i < s.data.toList.length := by rw [← HS.out]; exact hlt
      have hdr : s.data.toList.drop i = s[i] :: s.data.toList.drop (i + 1) := by rw [List.drop_eq_getElem_cons hlL, ← sget' s i hlt]
      have hkw : IntKind.i64.wrap ((k : Int) - 1) = (k : Int) - 1 := by rw [IntKind.wrap_i64]; omega
      have hiw : IntKind.i64.wrap ((i : Int) + 1) = (i : Int) + 1 := by rw [IntKind.wrap_i64]; omega
      by_cases hd : s[i] = 10
      · have hd' : (((s[i].toNat : Nat) : Int) == 10) = true := by rw [hd]; rfl
        by_cases hk1 : k = 1
        · have HR := Hid.of (show enP s.data.toList n 0 = (i : Int) + 1 by rw [HI.out, hdr, enP, if_pos hd, if_pos hk1])
          subst hk1
          clear hd hdr HI
          go_wp2
          go_ret
          exact ⟨by rw [HR.out]; rfl, rfl⟩
        · have HR := Hid.of (show enP s.data.toList n 0 = enP (s.data.toList.drop (i + 1)) (k - 1) ((i + 1 : Nat) : Int) by rw [HI.out, hdr, enP, if_pos hd, if_neg hk1, Int.natCast_add]; rfl)
          have hkz : (((k : Int) - 1) == 0) = false := by rw [beq_eq_false_iff_ne]; omega
          have hkc : (k : Int) - 1 = ((k - 1 : Nat) : Int) := by omega
          clear hd hdr HI
          go_wp2
          go_roundw
          case rel => exact ⟨i + 1, k - 1, by go_num, by rw [← hkc], by omega, by omega, by omega, by simp, HR⟩
          case measure => simp [intOf]; omega
      · have hd' : (((s[i].toNat : Nat) : Int) == 10) = false := by
          rw [beq_eq_false_iff_ne]
          intro e
          exact hd (UInt8.toNat_inj.1 (by have : (10 : UInt8).toNat = 10 := rfl; omega))
        have HR := Hid.of (show enP s.data.toList n 0 = enP (s.data.toList.drop (i + 1)) k ((i + 1 : Nat) : Int) by rw [HI.out, hdr, enP, if_neg hd, Int.natCast_add]; rfl)
        clear hd hdr HI
        go_wp2
        go_roundw
        case rel => exact ⟨i + 1, k, by go_num, rfl, by omega, by omega, by omega, by simp, HR⟩
        case measure => simp [intOf]; omega
    · have hltz : ¬ (i : Int) < (s.size : Int) := by omega
      have HR := Hid.of (show enP s.data.toList n 0 = -1 by rw [HI.out, List.drop_of_length_le (by rw [← HS.out]; omega)]; rfl)
      clear HI
      go_wp2
      go_ret
      exact ⟨by rw [HR.out]; rfl, rfl⟩
end Go.Proofs.YtaphjbcnnkoffaaGreatDoor
namespace Go.Proofs.YtaphjbcnnkoffaaGreatDoor
open Go.RowKit Go.Shelf TextNum ModNum
theorem wp_convS {o : Oper} {a : Act} {w : World} {K : Act → World → Prop} {Q : Exit → Act → World → Prop} (s : Operand)
    (ho : o.op = .convert 9 22 s) (t : ByteArray) (ht : t.size ≤ 140737488355328) (hs : a.eval s = .string t)
    (h : ∀ v' w', OwnM w' w.heap.size v' t.data.toList → Up w w' → K (a.put o.dst v') w') : o.wp Tryz.prog a w K Q := by
  obtain ⟨v', w', hr, h2, h3⟩ := conv_str w t ht
  unfold Oper.wp execOp
  simp only [ho, Sem.run_bind, Sem.run_pure, Result.andThen_ok, hs, hr]
  exact h v' w' h2 h3
theorem ext_strS (s : ByteArray) (a b : Nat) : s.extract a b = ⟨((s.data.toList.drop a).take (b - a)).toArray⟩ := by
  apply ByteArray.ext
  rw [ByteArray.data_extract, ← Array.toList_inj, Array.toList_extract]
theorem prc_lensS (l : List UInt8) : (prc l).a.length = 32 ∧ (prc l).b.length = 32 := by
  have hz : Z32.length = 32 := rfl
  unfold prc
  split
  · exact ⟨hz, hz⟩
  · rename_i x y _
    split
    · exact ⟨hz, hz⟩
    · split
      · exact ⟨hz, hz⟩
      · exact rdw_len x.1 x.2.1 x.2.2 y.2.2
/-- what the document sees of a body's lines -/
theorem body_at (l : List UInt8) : (lk l = none ∧ enP l 1 0 = -1) ∨ (lk l = none ∧ ∃ A : Nat, enP l 1 0 = (A : Int) ∧ (enP l 3 0 = -1 ∨ ∃ B : Nat, enP l 3 0 = (B : Int) ∧ B ≤ l.length ∧ l[B]? ≠ some 10)) ∨
    (∃ x rc m, lk l = some (x, rc, m) ∧ l = x ++ 10 :: (rc ++ 10 :: m) ∧ enP l 1 0 = ((x.length + 1 : Nat) : Int) ∧ enP l 3 0 = ((x.length + 1 + rc.length : Nat) : Int)) := by
  rcases Classical.em ((10 : UInt8) ∈ l) with h1 | h1
  · obtain ⟨x, r1, rfl, hx⟩ := at10 h1
    have hA : enP (x ++ 10 :: r1) 1 0 = ((x.length + 1 : Nat) : Int) := by rw [enP_hit hx, if_pos rfl, Int.natCast_add]; omega
    have hlk : lk (x ++ 10 :: r1) = lk3 x r1 := by unfold lk; rw [cu1_hit hx, Option.bind_some]
    have hB : enP (x ++ 10 :: r1) 3 0 = enP r1 2 ((x.length + 1 : Nat) : Int) := by rw [enP_hit hx, if_neg (by decide), Int.natCast_add, Int.zero_add]; rfl
    rcases Classical.em ((10 : UInt8) ∈ r1) with h2 | h2
    · obtain ⟨y, r2, rfl, hy⟩ := at10 h2
      rw [enP_hit hy, if_neg (by decide)] at hB
      rcases Classical.em ((10 : UInt8) ∈ r2) with h3 | h3
      · obtain ⟨z, r3, rfl, hz⟩ := at10 h3
        rw [enP_hit hz, if_pos rfl] at hB
        rw [lk3_two hy hz] at hlk
        have hB2 : enP (x ++ 10 :: (y ++ 10 :: (z ++ 10 :: r3))) 3 0 = ((x.length + 1 + (y ++ 10 :: (z ++ [10])).length : Nat) : Int) := by
          rw [hB]
          simp only [List.length_append, List.length_cons, List.length_nil]
          omega
        have he : x ++ 10 :: (y ++ 10 :: (z ++ 10 :: r3)) = (x ++ 10 :: (y ++ 10 :: (z ++ [10]))) ++ r3 := by simp
        have hlen : (x ++ 10 :: (y ++ 10 :: (z ++ [10]))).length = x.length + 1 + (y ++ 10 :: (z ++ [10])).length := by simp only [List.length_append, List.length_cons, List.length_nil]; omega
        have hget : (x ++ 10 :: (y ++ 10 :: (z ++ 10 :: r3)))[x.length + 1 + (y ++ 10 :: (z ++ [10])).length]? = r3[0]? := by
          rw [he, List.getElem?_append_right (by omega), hlen, Nat.sub_self]
        cases r3 with
        | nil => exact .inr (.inl ⟨hlk.trans rfl, _, hA, .inr ⟨_, hB2, by rw [he, List.append_nil, hlen]; exact Nat.le_refl _, by rw [hget]; simp⟩⟩)
        | cons q m =>
          by_cases hq : q = 10
          · subst hq
            exact .inr (.inr ⟨x, _, m, hlk.trans (by simp [lkM]), by simp, hA, hB2⟩)
          · exact .inr (.inl ⟨hlk.trans (if_neg hq), _, hA, .inr ⟨_, hB2, by have h := (congrArg List.length he).trans List.length_append; rw [hlen] at h; omega, by rw [hget]; simpa using hq⟩⟩)
      · exact .inr (.inl ⟨hlk.trans (lk3_few (fun a b r e ha => by
          rcases Classical.em ((10 : UInt8) ∈ b) with hb | hb
          · exact hb
          · exfalso
            have h5 := cu1_hit (b := r2) hy
            rw [e, cu1_hit ha] at h5
            simp only [Option.some.injEq, Prod.mk.injEq] at h5
            rw [← h5.2] at h3
            exact h3 (by simp))), _, hA, .inl (by rw [hB]; exact enP_no h3 _ _)⟩)
    · exact .inr (.inl ⟨hlk.trans (lk3_few (fun a b r e _ => by rw [e] at h2; exact absurd (by simp) h2)), _, hA, .inl (by rw [hB]; exact enP_no h2 _ _)⟩)
  · exact .inl ⟨by unfold lk; rw [cu1_no h1, Option.bind_none], enP_no h1 _ _⟩
set_option maxRecDepth 100000 in
set_option maxHeartbeats 8000000 in
theorem RParseLookup_walk (v : Value) (l : List UInt8) (hl : l.length ≤ 1048576) (w : World) (h : Sl w v l) (hT : TK w) (hB : BTab w) : Calls Tryz.prog 5 #[v] w (PLK l w) := by
  have HT := Hid.of hT
  have HB := Hid.of hB
  have hcv := conv_sl h
  obtain ⟨s, hs⟩ : ∃ t, (⟨l.toArray⟩ : ByteArray) = t := ⟨_, rfl⟩
  have HS := Hid.of (show s.data.toList = l by rw [← hs])
  have hsz : s.size ≤ 1048576 := by rw [Go.Lib.size_eq, HS.out]; exact hl
  have HSZ := Hid.of (show s.size = l.length by rw [Go.Lib.size_eq, HS.out])
  rw [show vs l = .string s from congrArg Value.string hs] at hcv
  have hE1 := end_walk s hsz 1 (by decide) (by decide) w
  have hE3 := end_walk s hsz 3 (by decide) (by decide) w
  rw [HS.out] at hE1 hE3
  clear hs h hT hB
  rcases body_at l with ⟨hn, hA⟩ | ⟨hn, A, hA, hB⟩ | ⟨x, rc, m, hlk, hle, hA, hB⟩
  · rw [hA] at hE1
    have HNO := Hid.of (good_lk hn)
    generalize enP l 3 0 = bz at *
    clear hA hn
    go_enter Tryz.func5, Tryz.ntmps5
    go_wp2_with fail
    refine hE1.mono ?_
    rintro e w' ⟨rfl, rfl⟩
    dsimp only
    go_wp2_with fail
    refine hE3.mono ?_
    rintro e w' ⟨rfl, rfl⟩
    dsimp only
    go_wp2
    refine bodyPost_ret (results_tmp4S rfl _ _ _) rfl ?_
    exact PLK.no (Up.refl _) HNO.out
  · rw [hA] at hE1
    have HNO := Hid.of (good_lk hn)
    have hA0 : ¬ (A : Int) < 0 := by omega
    clear hA hn
    rcases hB with hB | ⟨B, hB, hBl, hBn⟩
    · rw [hB] at hE3
      clear hB
      go_enter Tryz.func5, Tryz.ntmps5
      go_wp2_with fail
      refine hE1.mono ?_
      rintro e w' ⟨rfl, rfl⟩
      dsimp only
      go_wp2_with fail
      refine hE3.mono ?_
      rintro e w' ⟨rfl, rfl⟩
      dsimp only
      go_wp2
      refine bodyPost_ret (results_tmp4S rfl _ _ _) rfl ?_
      exact PLK.no (Up.refl _) HNO.out
    · rw [hB] at hE3
      have hB0 : ¬ (B : Int) < 0 := by omega
      clear hB
      by_cases hBs : B < s.size
      · have hBz : ¬ (s.size : Int) ≤ (B : Int) := by omega
        have hne : (((s[B].toNat : Nat) : Int) != 10) = true := by
          rw [bne_iff_ne]
          intro e
          refine hBn ?_
          have h1 : B < s.data.toList.length := by rw [← Go.Lib.size_eq]; exact hBs
          rw [← HS.out, List.getElem?_eq_getElem h1]
          congr 1
          apply UInt8.toNat_inj.1
          have h3 : (10 : UInt8).toNat = 10 := rfl
          show s[B].toNat = _
          omega
        clear hBn
        go_enter Tryz.func5, Tryz.ntmps5
        go_wp2_with fail
        refine hE1.mono ?_
        rintro e w' ⟨rfl, rfl⟩
        dsimp only
        go_wp2_with fail
        refine hE3.mono ?_
        rintro e w' ⟨rfl, rfl⟩
        dsimp only
        go_wp2
        refine bodyPost_ret (results_tmp4S rfl _ _ _) rfl ?_
        exact PLK.no (Up.refl _) HNO.out
      · have hBz : (s.size : Int) ≤ (B : Int) := by omega
        clear hBn
        go_enter Tryz.func5, Tryz.ntmps5
        go_wp2_with fail
        refine hE1.mono ?_
        rintro e w' ⟨rfl, rfl⟩
        dsimp only
        go_wp2_with fail
        refine hE3.mono ?_
        rintro e w' ⟨rfl, rfl⟩
        dsimp only
        go_wp2
        refine bodyPost_ret (results_tmp4S rfl _ _ _) rfl ?_
        exact PLK.no (Up.refl _) HNO.out
  · rw [hA] at hE1
    rw [hB] at hE3
    obtain ⟨A, hA2⟩ : ∃ t, x.length + 1 = t := ⟨_, rfl⟩
    obtain ⟨B, hB2⟩ : ∃ t, x.length + 1 + rc.length = t := ⟨_, rfl⟩
    have HAB := Hid.of (And.intro hA2 hB2)
    rw [hA2] at hE1
    rw [hB2] at hE3
    have hll : l.length = B + 1 + m.length := by rw [hle, ← hB2]; simp only [List.length_append, List.length_cons]; omega
    have hA0 : ¬ (A : Int) < 0 := by omega
    have hB0 : ¬ (B : Int) < 0 := by omega
    have hBs : B < s.size := by rw [HSZ.out]; omega
    have hAB : A ≤ B := by omega
    have hA1 : 1 ≤ A := by omega
    have hBz : ¬ (s.size : Int) ≤ (B : Int) := by omega
    have hBz2 : (B : Int) ≤ (s.size : Int) := by omega
    have hABz : (A : Int) ≤ (B : Int) := by omega
    have hAw : IntKind.i64.wrap ((A : Int) - 1) = ((A - 1 : Nat) : Int) := by rw [IntKind.wrap_i64]; omega
    have hA1z : ((A - 1 : Nat) : Int) ≤ (s.size : Int) := by omega
    have hBw : IntKind.i64.wrap ((B : Int) + 1) = ((B + 1 : Nat) : Int) := by rw [IntKind.wrap_i64]; omega
    have hB1z : ((B + 1 : Nat) : Int) ≤ (s.size : Int) := by omega
    have hsB : (((s[B].toNat : Nat) : Int) != 10) = false := by
      have h1 : s.data.toList[B]? = some 10 := by
        rw [HS.out, hle, show x ++ 10 :: (rc ++ 10 :: m) = (x ++ 10 :: rc) ++ 10 :: m by simp, List.getElem?_append_right (by rw [List.length_append, List.length_cons]; omega)]
        have e : B - (x ++ 10 :: rc).length = 0 := by rw [List.length_append, List.length_cons]; omega
        rw [e]
        rfl
      have h2 : B < s.data.toList.length := by rw [← Go.Lib.size_eq]; exact hBs
      rw [List.getElem?_eq_getElem h2] at h1
      have h3 : s[B] = 10 := Option.some.inj h1
      rw [h3]
      rfl
    obtain ⟨sX, hsX⟩ : ∃ t, s.extract 0 (A - 1) = t := ⟨_, rfl⟩
    obtain ⟨sR, hsR⟩ : ∃ t, s.extract A B = t := ⟨_, rfl⟩
    obtain ⟨sM, hsM⟩ : ∃ t, s.extract (B + 1) s.size = t := ⟨_, rfl⟩
    have HX := Hid.of (show sX.data.toList = x by
      rw [← hsX, ext_strS, HS.out, hle, List.drop_zero, Nat.sub_zero, show A - 1 = x.length by omega]
      exact List.take_left)
    have HR := Hid.of (show sR.data.toList = rc by
      rw [← hsR, ext_strS, HS.out, hle, show x ++ 10 :: (rc ++ 10 :: m) = (x ++ [10]) ++ (rc ++ 10 :: m) by simp, List.drop_left' (by rw [List.length_append]; exact hA2), show B - A = rc.length by omega]
      exact List.take_left)
    have HM := Hid.of (show sM.data.toList = m by
      rw [← hsM, ext_strS, HSZ.out, HS.out, hle, show x ++ 10 :: (rc ++ 10 :: m) = (x ++ 10 :: (rc ++ [10])) ++ m by simp, List.drop_left' (by simp only [List.length_append, List.length_cons, List.length_nil]; omega)]
      exact List.take_of_length_le (by rw [List.length_append]; simp only [List.length_append, List.length_cons, List.length_nil]; omega))
    have HLK := Hid.of hlk
    have hMz : sM.size ≤ 140737488355328 := by rw [Go.Lib.size_eq, HM.out]; omega
    clear hle hA hB hlk hll hA2 hB2
    go_enter Tryz.func5, Tryz.ntmps5
    go_wp2_with fail
    refine hE1.mono ?_
    rintro e w1 ⟨rfl, rfl⟩
    dsimp only
    go_wp2_with fail
    refine hE3.mono ?_
    rintro e w2 ⟨rfl, rfl⟩
    clear hcv hE1 hE3
    dsimp only
    go_wp2_with fail
    have hP := RParse_walk sX 281474976710655 (by decide) (by decide) w2
    rw [HX.out] at hP
    obtain ⟨n, er, hpq⟩ : ∃ n er, prs x 281474976710655 = (n, er) := ⟨_, _, rfl⟩
    rw [hpq] at hP
    have HPR := Hid.of hpq
    clear hpq
    refine hP.mono ?_
    rintro e w3 ⟨rfl, u3⟩
    have HU3 := Hid.of u3
    clear hP u3 hsX
    dsimp only
    go_wp2_with fail
    have hPR := RParseRecord_walk sR w3 (HT.out.up HU3.out)
    rw [HR.out] at hPR
    obtain ⟨pe, hpe⟩ : ∃ t, (prc rc).e = t := ⟨_, rfl⟩
    have HPE := Hid.of hpe
    obtain ⟨hqa, hqb⟩ := prc_lensS rc
    unfold prcV at hPR
    rw [hpe] at hPR
    generalize (prc rc).a = qa at *
    generalize (prc rc).b = qb at *
    generalize vs (prc rc).p = gp at *
    generalize vs (prc rc).v = gv at *
    clear hpe
    refine hPR.mono ?_
    rintro e w4 ⟨rfl, u4⟩
    have HU4 := Hid.of (HU3.out.trans u4)
    clear hPR u4 HU3
    dsimp only
    have hla : (cb qa).length = 32 := by rw [cb_length]; exact hqa
    have hlb : (cb qb).length = 32 := by rw [cb_length]; exact hqb
    go_wp2_with (with_reducible show wpList _ _ _ ({ dst := _, op := Op.store 36 _ _, type := _, pos := _, after := _, guard := _ } :: _) _ _; refine Shut.out ?_)
    show wpList _ _ _ _ _ _
    change wpList _ _ _ _ _ ((w4.alloc (.cells (cb Z32).toArray 36)).alloc (.cells (cb Z32).toArray 36))
    have hAA := At.up (at_new w4 36 (cb Z32)) ((Up.refl _).alloc (.cells (cb Z32).toArray 36))
    have hBB := at_new (w4.alloc (.cells (cb Z32).toArray 36)) 36 (cb Z32)
    rw [alloc_size] at hBB
    have HBB := Hid.of hBB
    have HU5 := Hid.of (((Up.refl w4).alloc (.cells (cb Z32).toArray 36)).alloc (.cells (cb Z32).toArray 36))
    clear hBB
    generalize (w4.alloc (.cells (cb Z32).toArray 36)).alloc (.cells (cb Z32).toArray 36) = W5 at *
    refine wpList_store_at rfl _ _ _ rfl w4.heap.size hAA (cb qa) rfl rfl (by rw [hla]; rfl) (by rw [List.size_toArray, hla]; kernel_rfl) (all_oneCell_toArray (cb_one _)) fun w6 _ hg6 => ?_
    have HU6 := Hid.of (HU5.out.by hg6 (fun g hg => by have e : w4.heap.size = g := Option.some.inj hg; omega))
    have HB6 := Hid.of (HBB.out.by hg6 (by intro e; have e2 : w4.heap.size = w4.heap.size + 1 := Option.some.inj e; omega))
    clear hAA hg6 HU5 HBB
    simp only [Act.put]
    go_wp2_with (with_reducible show wpList _ _ _ ({ dst := _, op := Op.store 36 _ _, type := _, pos := _, after := _, guard := _ } :: _) _ _; refine Shut.out ?_)
    show wpList _ _ _ _ _ _
    refine wpList_store_at rfl _ _ _ rfl (w4.heap.size + 1) HB6.out (cb qb) rfl rfl (by rw [hlb]; rfl) (by rw [List.size_toArray, hlb]; kernel_rfl) (all_oneCell_toArray (cb_one _)) fun w7 _ hg7 => ?_
    have HU7 := Hid.of (HU4.out.trans (HU6.out.by hg7 (fun g hg => by have e : w4.heap.size + 1 = g := Option.some.inj hg; omega)))
    clear hg7 HB6 HU6 HU4
    simp only [Act.put]
    go_wp2_with (with_reducible show wpList _ _ _ ({ dst := _, op := Op.convert 9 22 _, type := _, pos := _, after := _, guard := _ } :: _) _ _; refine Shut.out ?_)
    show wpList _ _ _ _ _ _
    refine wpList_conv rfl _ rfl sM hMz rfl ?_
    intro v8 w8 hO8 q8
    have HO8 := Hid.of (show Sl w8 v8 m by rw [← HM.out]; exact hO8.sl)
    have HU8 := Hid.of (HU7.out.trans q8)
    clear hO8 q8 HU7
    simp only [Act.put, List.setIfInBounds_toArray, List.set_cons_zero, List.set_cons_succ]
    go_wp2_with fail
    refine (RSplit_walk v8 m w8 HO8.out (fun k hk => HU8.out.cell (HB.out k hk))).mono ?_
    rintro e W ⟨t, sv, qs, se, rfl, hr, _, _, u9, _⟩
    have HUW := Hid.of (HU8.out.trans u9)
    clear u9 HU8 HO8
    dsimp only
    have hor : (se ≠ 0 ∧ ¬ (m.length ≤ 65536 ∧ ∃ t ss, Spl m t ss)) ∨ (se = 0 ∧ (m.length ≤ 65536 ∧ ∃ t ss, Spl m t ss)) := by
      rcases hr with ⟨rfl, h⟩ | ⟨rfl, h, hn⟩ | ⟨rfl, h, hy⟩
      · exact .inl ⟨by decide, fun hb => by have := hb.1; omega⟩
      · exact .inl ⟨by decide, fun hb => hn hb.2⟩
      · exact .inr ⟨rfl, h, _, _, hy⟩
    clear hr
    by_cases he : er = 0
    case neg =>
      have HNO := Hid.of (good_num HLK.out (by rw [HPR.out]; exact he))
      clear hor
      go_wp2
      refine bodyPost_ret (results_tmp4S rfl _ _ _) rfl ?_
      exact PLK.no HUW.out HNO.out
    by_cases hpz : pe = 0
    case neg =>
      have HNO := Hid.of (good_rec HLK.out (by rw [HPE.out]; exact hpz))
      clear hor
      go_wp2
      refine bodyPost_ret (results_tmp4S rfl _ _ _) rfl ?_
      exact PLK.no HUW.out HNO.out
    subst he hpz
    rcases hor with ⟨hse, hno⟩ | ⟨rfl, hyes⟩
    · have HNO := Hid.of (good_note HLK.out hno)
      clear hno
      go_wp2
      refine bodyPost_ret (results_tmp4S rfl _ _ _) rfl ?_
      exact PLK.no HUW.out HNO.out
    · have HGOOD := Hid.of (show GOOD l n rc m from ⟨x, HLK.out, HPR.out, HPE.out, hyes.1, hyes.2⟩)
      have HRS := Hid.of (show (⟨rc.toArray⟩ : ByteArray) = sR from ba_list7 (by rw [HR.out]))
      clear hyes
      go_wp2
      refine wp_region_held_drew (S := fun wx => Up w2 wx) (by kernel_rfl) (HUW.out.drew) (fun hS => ?_)
      refine wpAnyH_take (i := 0) (oi := { dst := some 82, op := Go.Op.move (Go.Operand.tmp 9), type := 2, pos := "ref.go:98", after := #[], guard := none }) (v := .int .i64 n) rfl (by kernel_rfl) (by kernel_rfl) (by kernel_rfl) (fun _ _ _ h => h) (Or.inl ⟨by kernel_rfl, ?_⟩) hS ?_
      · intro w5 hSw
        clear hSw hS
        go_simp
      simp only [Act.put, List.setIfInBounds_toArray, List.set_cons_zero, List.set_cons_succ]
      refine wpAnyH_take (i := 1) (oi := { dst := some 83, op := Go.Op.move (Go.Operand.tmp 6), type := 9, pos := "ref.go:98", after := #[], guard := none }) (v := .string s) rfl (by kernel_rfl) (by kernel_rfl) (by kernel_rfl) (fun _ _ _ h => h) (Or.inl ⟨by kernel_rfl, ?_⟩) hS ?_
      · intro w5 hSw
        clear hSw hS
        go_simp
      simp only [Act.put, List.setIfInBounds_toArray, List.set_cons_zero, List.set_cons_succ]
      refine wpAnyH_take (i := 2) (oi := { dst := some 84, op := Go.Op.move (Go.Operand.tmp 7), type := 3, pos := "ref.go:98", after := #[], guard := none }) (v := .int .i64 (A : Int)) rfl (by kernel_rfl) (by kernel_rfl) (by kernel_rfl) (fun _ _ _ h => h) (Or.inl ⟨by kernel_rfl, ?_⟩) hS ?_
      · intro w5 hSw
        clear hSw hS
        go_simp
      simp only [Act.put, List.setIfInBounds_toArray, List.set_cons_zero, List.set_cons_succ]
      refine wpAnyH_take (i := 3) (oi := { dst := some 85, op := Go.Op.move (Go.Operand.tmp 8), type := 3, pos := "ref.go:98", after := #[], guard := none }) (v := .int .i64 (B : Int)) rfl (by kernel_rfl) (by kernel_rfl) (by kernel_rfl) (fun _ _ _ h => h) (Or.inl ⟨by kernel_rfl, ?_⟩) hS ?_
      · intro w5 hSw
        clear hSw hS
        go_simp
      simp only [Act.put, List.setIfInBounds_toArray, List.set_cons_zero, List.set_cons_succ]
      refine wpAnyH_take (i := 4) (oi := { dst := some 86, op := Go.Op.slice 9 (Go.Operand.tmp 83) (some (Go.Operand.tmp 84)) (some (Go.Operand.tmp 85)) none, type := 9, pos := "ref.go:98", after := #[{ on := 1, ground := Go.Ground.data }, { on := 2, ground := Go.Ground.data }, { on := 3, ground := Go.Ground.data }], guard := none }) (v := .string sR) rfl (by kernel_rfl) (by kernel_rfl) (by kernel_rfl) (fun _ _ _ h => h) (Or.inl ⟨by kernel_rfl, ?_⟩) hS ?_
      · intro w5 hSw
        clear hSw hS
        go_simp
      simp only [Act.put, List.setIfInBounds_toArray, List.set_cons_zero, List.set_cons_succ]
      refine wpAnyH_take (i := 5) (oi := { dst := some 87, op := Go.Op.move (Go.Operand.tmp 6), type := 9, pos := "ref.go:98", after := #[], guard := none }) (v := .string s) rfl (by kernel_rfl) (by kernel_rfl) (by kernel_rfl) (fun _ _ _ h => h) (Or.inl ⟨by kernel_rfl, ?_⟩) hS ?_
      · intro w5 hSw
        clear hSw hS
        go_simp
      simp only [Act.put, List.setIfInBounds_toArray, List.set_cons_zero, List.set_cons_succ]
      refine wpAnyH_take (i := 6) (oi := { dst := some 88, op := Go.Op.move (Go.Operand.tmp 8), type := 3, pos := "ref.go:98", after := #[], guard := none }) (v := .int .i64 (B : Int)) rfl (by kernel_rfl) (by kernel_rfl) (by kernel_rfl) (fun _ _ _ h => h) (Or.inl ⟨by kernel_rfl, ?_⟩) hS ?_
      · intro w5 hSw
        clear hSw hS
        go_simp
      simp only [Act.put, List.setIfInBounds_toArray, List.set_cons_zero, List.set_cons_succ]
      refine wpAnyH_take (i := 7) (oi := { dst := some 89, op := Go.Op.binOp Go.BinOp.add 3 (Go.Operand.tmp 88) (Go.Operand.const (Go.Value.int Go.IntKind.i64 1)) 3, type := 3, pos := "ref.go:98", after := #[{ on := 6, ground := Go.Ground.data }], guard := none }) (v := .int .i64 ((B + 1 : Nat) : Int)) rfl (by kernel_rfl) (by kernel_rfl) (by kernel_rfl) (fun _ _ _ h => h) (Or.inl ⟨by kernel_rfl, ?_⟩) hS ?_
      · intro w5 hSw
        clear hSw hS
        go_simp
      simp only [Act.put, List.setIfInBounds_toArray, List.set_cons_zero, List.set_cons_succ]
      refine wpAnyH_take (i := 8) (oi := { dst := some 90, op := Go.Op.slice 9 (Go.Operand.tmp 87) (some (Go.Operand.tmp 89)) none none, type := 9, pos := "ref.go:98", after := #[{ on := 5, ground := Go.Ground.data }, { on := 7, ground := Go.Ground.data }], guard := none }) (v := .string sM) rfl (by kernel_rfl) (by kernel_rfl) (by kernel_rfl) (fun _ _ _ h => h) (Or.inl ⟨by kernel_rfl, ?_⟩) hS ?_
      · intro w5 hSw
        clear hSw hS
        have hz1 : (0 : Int) ≤ (B : Int) + 1 := by omega
        have hz2 : (B : Int) + 1 ≤ (s.size : Int) := by omega
        have hz3 : ((B : Int) + 1).toNat = B + 1 := by omega
        go_simp
      simp only [Act.put, List.setIfInBounds_toArray, List.set_cons_zero, List.set_cons_succ]
      refine wpAnyH_take (i := 10) (oi := { dst := some 2, op := Go.Op.assign (Go.Operand.tmp 82), type := 2, pos := "ref.go:98", after := #[{ on := 0, ground := Go.Ground.data }, { on := 0, ground := Go.Ground.phase }, { on := 1, ground := Go.Ground.textOnly Go.Departure.lateStores }, { on := 2, ground := Go.Ground.textOnly Go.Departure.lateStores }, { on := 3, ground := Go.Ground.textOnly Go.Departure.lateStores }, { on := 4, ground := Go.Ground.textOnly Go.Departure.lateStoresUnsure }, { on := 5, ground := Go.Ground.textOnly Go.Departure.lateStores }, { on := 6, ground := Go.Ground.textOnly Go.Departure.lateStores }, { on := 7, ground := Go.Ground.textOnly Go.Departure.lateStores }, { on := 8, ground := Go.Ground.textOnly Go.Departure.lateStoresUnsure }, { on := 9, ground := Go.Ground.textOnly Go.Departure.lateStores }], guard := none }) (v := .int .i64 n) rfl (by kernel_rfl) (by kernel_rfl) (by kernel_rfl) (fun _ _ _ h => h) (Or.inl ⟨by kernel_rfl, ?_⟩) hS ?_
      · intro w5 hSw
        clear hSw hS
        go_simp
      simp only [Act.put, List.setIfInBounds_toArray, List.set_cons_zero, List.set_cons_succ]
      refine wpAnyH_take (i := 11) (oi := { dst := some 3, op := Go.Op.assign (Go.Operand.tmp 86), type := 9, pos := "ref.go:98", after := #[{ on := 4, ground := Go.Ground.data }, { on := 10, ground := Go.Ground.chain }, { on := 0, ground := Go.Ground.phase }, { on := 1, ground := Go.Ground.phase }, { on := 2, ground := Go.Ground.phase }, { on := 3, ground := Go.Ground.phase }, { on := 4, ground := Go.Ground.phase }, { on := 5, ground := Go.Ground.textOnly Go.Departure.lateStores }, { on := 6, ground := Go.Ground.textOnly Go.Departure.lateStores }, { on := 7, ground := Go.Ground.textOnly Go.Departure.lateStores }, { on := 8, ground := Go.Ground.textOnly Go.Departure.lateStoresUnsure }, { on := 9, ground := Go.Ground.textOnly Go.Departure.lateStores }, { on := 10, ground := Go.Ground.phase }], guard := none }) (v := .string sR) rfl (by kernel_rfl) (by kernel_rfl) (by kernel_rfl) (fun _ _ _ h => h) (Or.inl ⟨by kernel_rfl, ?_⟩) hS ?_
      · intro w5 hSw
        clear hSw hS
        go_simp
      simp only [Act.put, List.setIfInBounds_toArray, List.set_cons_zero, List.set_cons_succ]
      refine wpAnyH_ready (rs := [9]) (by kernel_rfl) (by simp) ?_
      refine AllReadyH.cons (o := { dst := some 91, op := Go.Op.convert 9 22 (Go.Operand.tmp 90), type := 22, pos := "ref.go:98", after := #[{ on := 8, ground := Go.Ground.data }, { on := 11, ground := Go.Ground.gcOnly Go.Departure.lateStores }], guard := none }) rfl (fun K hK => ?_) AllReadyH.nil
      rw [if_pos (by kernel_rfl)]
      refine wp_convS _ rfl sM hMz rfl ?_
      intro v9 w9 hO9 q9
      have HF9 := Hid.of (And.intro hO9.sl (HUW.out.trans ((Up.refl W).drew.trans q9)))
      clear hO9 q9
      refine hK.out _ _ HF9.out.2 (fun hS9 => ?_)
      clear hK
      refine wpAnyH_take (i := 12) (oi := { dst := some 4, op := Go.Op.assign (Go.Operand.tmp 91), type := 22, pos := "ref.go:98", after := #[{ on := 9, ground := Go.Ground.data }, { on := 11, ground := Go.Ground.chain }, { on := 0, ground := Go.Ground.phase }, { on := 1, ground := Go.Ground.phase }, { on := 2, ground := Go.Ground.phase }, { on := 3, ground := Go.Ground.phase }, { on := 4, ground := Go.Ground.phase }, { on := 5, ground := Go.Ground.phase }, { on := 6, ground := Go.Ground.phase }, { on := 7, ground := Go.Ground.phase }, { on := 8, ground := Go.Ground.phase }, { on := 9, ground := Go.Ground.phase }, { on := 10, ground := Go.Ground.phase }, { on := 11, ground := Go.Ground.phase }], guard := none }) (v := v9) rfl (by kernel_rfl) (by kernel_rfl) (by kernel_rfl) (fun _ _ _ h => h) (Or.inl ⟨by kernel_rfl, ?_⟩) hS9 ?_
      · intro w5 hSw
        clear hSw hS9
        go_simp
      simp only [Act.put, List.setIfInBounds_toArray, List.set_cons_zero, List.set_cons_succ]
      refine wpAnyH_take (i := 13) (oi := { dst := some 5, op := Go.Op.assign (Go.Operand.const (Go.Value.int Go.IntKind.i64 0)), type := 3, pos := "ref.go:98", after := #[{ on := 12, ground := Go.Ground.chain }, { on := 0, ground := Go.Ground.phase }, { on := 1, ground := Go.Ground.phase }, { on := 2, ground := Go.Ground.phase }, { on := 3, ground := Go.Ground.phase }, { on := 4, ground := Go.Ground.phase }, { on := 5, ground := Go.Ground.phase }, { on := 6, ground := Go.Ground.phase }, { on := 7, ground := Go.Ground.phase }, { on := 8, ground := Go.Ground.phase }, { on := 9, ground := Go.Ground.phase }, { on := 10, ground := Go.Ground.phase }, { on := 11, ground := Go.Ground.phase }, { on := 12, ground := Go.Ground.phase }], guard := none }) (v := .int .i64 0) rfl (by kernel_rfl) (by kernel_rfl) (by kernel_rfl) (fun _ _ _ h => h) (Or.inl ⟨by kernel_rfl, ?_⟩) hS9 ?_
      · intro w5 hSw
        clear hSw hS9
        go_simp
      simp only [Act.put, List.setIfInBounds_toArray, List.set_cons_zero, List.set_cons_succ]
      refine wpAnyH_done (by kernel_rfl) ?_ _
      clear hS9
      go_wp2
      refine bodyPost_ret (results_tmp4S rfl _ _ _) rfl ?_
      exact ⟨n, rc, _, 0, by rw [HRS.out]; rfl, HF9.out.2, .inl ⟨rfl, m, HGOOD.out, by rw [← HM.out]; exact HF9.out.1⟩⟩
end Go.Proofs.YtaphjbcnnkoffaaGreatDoor
namespace Go.Proofs.YtaphjbcnnkoffaaGreatDoor
open Go.RowKit Go.Shelf TextNum ModNum
theorem good_nil : ¬ ∃ n rc m, GOOD [] n rc m := good_lk (by simp [lk, cu1])
/-- all that the law reads of the variables -/
structure GS (w : World) : Prop where
  g : GR w
  t : TabL w
  k : TK w
  b : BTab w
  wt : Go.Lib.WhiteTab 5 w
  n : GN w
set_option maxRecDepth 100000 in
set_option maxHeartbeats 4000000 in
theorem ServerParses_walk (w : World) {a : Option Addr} {n0 c : Nat} (l : List UInt8) (h : Sl w (.slice a n0 c) l) (hl : l.length ≤ 1048576) (hG : GS w) : Calls Tryz.prog 3 #[.slice a n0 c] w fun e w' => e = .returned (.bool true) ∧ Up w w' := by
  obtain ⟨N, S, M, E, _, hMl, hFX⟩ := PLK.fix l
  have HFX := Hid.of hFX
  have HG := Hid.of hG
  have HS := Hid.of h
  have hcv := conv_sl h
  obtain ⟨s, hs⟩ : ∃ t, (⟨l.toArray⟩ : ByteArray) = t := ⟨_, rfl⟩
  have HSS := Hid.of (show s.data.toList = l by rw [← hs])
  have hsz : s.size ≤ 140737488355328 := by rw [Go.Lib.size_eq, HSS.out]; omega
  rw [show vs l = .string s from congrArg Value.string hs] at hcv
  clear hs h hG hFX
  go_enter Tryz.func3, Tryz.ntmps3
  go_wp2_with (with_reducible show wpList _ _ _ ({ dst := _, op := Op.convert 9 22 _, type := _, pos := _, after := _, guard := _ } :: _) _ _; refine Shut.out ?_)
  show wpList _ _ _ _ _ _
  clear hcv
  refine wpList_conv rfl _ rfl s hsz rfl ?_
  intro v1 w1 hO1 q1
  have H1 := Hid.of (show Sl w1 v1 l by rw [← HSS.out]; exact hO1.sl)
  have HU1 := Hid.of q1
  clear hO1 q1
  simp only [Act.put, List.setIfInBounds_toArray, List.set_cons_zero, List.set_cons_succ]
  obtain ⟨a1, n1, c1, rfl⟩ : ∃ a n c, v1 = .slice a n c := by
    obtain ⟨a, c, e, _⟩ := H1.out
    exact ⟨_, _, _, e⟩
  go_wp2_with fail
  refine (ParseLookup_walk hl w1 H1.out (HG.out.g.up HU1.out) (HG.out.t.up HU1.out) (WhiteTab_up HG.out.wt HU1.out) (HG.out.n.up HU1.out)).mono ?_
  rintro e w2 hp2
  obtain ⟨v2, rfl, q2, s2⟩ := HFX.out _ _ _ hp2
  have HU2 := Hid.of (HU1.out.trans q2)
  have H2 := Hid.of s2
  clear hp2 q2 s2 H1 HU1
  dsimp only
  go_wp2_with fail
  refine (RParseLookup_walk _ l hl w2 (HS.out.up HU2.out) (HG.out.k.up HU2.out) (fun k hk => HU2.out.cell (HG.out.b k hk))).mono ?_
  rintro e w3 hp3
  obtain ⟨v3, rfl, q3, s3⟩ := HFX.out _ _ _ hp3
  have HU3 := Hid.of (HU2.out.trans q3)
  have H23 := Hid.of (H2.out.up q3)
  have H3 := Hid.of s3
  clear hp3 q3 s3 H2 HU2
  dsimp only
  go_wp2_with fail
  refine (ParseLookup_walk (l := []) (by simp) w3 ⟨none, 0, rfl, Nat.le_refl _, .inl rfl⟩ (HG.out.g.up HU3.out) (HG.out.t.up HU3.out) (WhiteTab_up HG.out.wt HU3.out) (HG.out.n.up HU3.out)).mono ?_
  rintro e w4 hp4
  obtain ⟨n4, rc4, v4, er4, rfl, q4, h4⟩ := hp4
  have HU4 := Hid.of (HU3.out.trans q4)
  have H24 := Hid.of (H23.out.up q4)
  have H34 := Hid.of (H3.out.up q4)
  obtain rfl : er4 = 172 := by
    rcases h4 with ⟨_, m, g, _⟩ | ⟨h, _⟩
    · exact absurd ⟨_, _, m, g⟩ good_nil
    · exact h
  clear q4 h4 H23 H3 HU3
  dsimp only
  have c2 := conv_sl H24.out
  have c3 := conv_sl H34.out
  obtain ⟨sM, hsM⟩ : ∃ t, (⟨M.toArray⟩ : ByteArray) = t := ⟨_, rfl⟩
  rw [show vs M = .string sM from congrArg Value.string hsM] at c2 c3
  clear hsM
  generalize (⟨rc4.toArray⟩ : ByteArray) = s4 at *
  go_wp2
  go_ret
  exact ⟨by first | rfl | simp, HU4.out⟩
end Go.Proofs.YtaphjbcnnkoffaaGreatDoor
namespace Go.Proofs.YtaphjbcnnkoffaaGreatDoor
open Go.RowKit TextNum ModNum Go.Lib Go.ChangeShapes Go.WideShapes Go.ChangeAt Go.WideElems Go.WideMaps
set_option maxRecDepth 100000 in
theorem whiteXf : WhiteExtra Tryz.prog Tryz.lays199_ren := ⟨by kernel_rfl, by kernel_rfl, by kernel_rfl, by kernel_rfl, by kernel_rfl, by kernel_rfl, by kernel_rfl, by kernel_rfl⟩
set_option maxRecDepth 100000 in
theorem white_dataf : (Rows.laid_unicode_White_Space : DataW Unit) = whiteData := by kernel_rfl
theorem white_off {W : World} (h : VarReads Tryz.prog W "unicode.White_Space" Rows.laid_unicode_White_Space) : WhiteTab 5 W := by
  rw [white_dataf] at h
  exact whiteTab_of_reads Tryz.lays199 whiteXf h
set_option maxRecDepth 100000 in
theorem tabPow : (Rows.laid_internal_strconv_uint64pow10 : DataW Unit) = tabData .u64 pow10Tab := by kernel_rfl
set_option maxRecDepth 100000 in
theorem nErr : Tryz.prog.globalNamed "strconv.ErrRange" = some 4 := by kernel_rfl
set_option maxRecDepth 100000 in
theorem pow_of {W : World} (h : VarReads Tryz.prog W "internal/strconv.uint64pow10" Rows.laid_internal_strconv_uint64pow10) : TabIs Tryz.prog W "internal/strconv.uint64pow10" .u64 pow10Tab := by
  rw [tabPow] at h
  obtain ⟨g, t, cs, fuel, p, hg, hty, hvar, hd⟩ := h
  obtain rfl := Option.some.inj ((show Tryz.prog.globalNamed "internal/strconv.uint64pow10" = some 9 by kernel_rfl).symm.trans hg)
  obtain rfl := Option.some.inj ((show (Tryz.prog.globals[9]?).map (·.type) = some 217 by kernel_rfl).symm.trans hty)
  have hcs := cells_of_tab Tryz.underlying217 Tryz.underlying125 (by kernel_rfl) (by kernel_rfl) hd
  unfold TabIs
  rw [hvar, ← hcs]
set_option maxRecDepth 100000 in
theorem err_of {W : World} (h : VarReads Tryz.prog W "strconv.ErrRange" Rows.laid_strconv_ErrRange) : ∃ te pe, W.cell? ⟨4, 0, none⟩ = some (.iface te pe) := by
  obtain ⟨g0, t0, cs0, f0, p0, hg0, ht0, hv0, hd0⟩ := h
  obtain rfl := Option.some.inj (nErr.symm.trans hg0)
  obtain rfl := Option.some.inj ((show (Tryz.prog.globals[4]?).map (·.type) = some 72 by kernel_rfl).symm.trans ht0)
  obtain ⟨f1, u, v, hcs, _, _⟩ := iface_of_trod Tryz.underlying72 hd0
  have h0 := World.var?_cell hg0 hv0 0
  rw [← Array.getElem?_toList, hcs] at h0
  exact ⟨u, v, h0⟩
set_option maxRecDepth 100000 in
theorem nBlanks : Tryz.prog.globalNamed "ledger/ledgerref07.blanks" = some 1 := by kernel_rfl
set_option maxRecDepth 100000 in
theorem blanks_data : (Rows.laid_ledger_ledgerref07_blanks : DataW Unit) = .agg (BLK.map fun l => .lit (.string l)) := by kernel_rfl
set_option maxRecDepth 100000 in
theorem blanks_of {W : World} (h : VarReads Tryz.prog W "ledger/ledgerref07.blanks" Rows.laid_ledger_ledgerref07_blanks) : BTab W := by
  rw [blanks_data] at h
  obtain ⟨g, t, cs, fuel, p, hg, hty, hvar, hd⟩ := h
  obtain rfl := Option.some.inj (nBlanks.symm.trans hg)
  obtain rfl := Option.some.inj ((show (Tryz.prog.globals[1]?).map (·.type) = some 120 by kernel_rfl).symm.trans hty)
  intro k hk
  obtain ⟨fuel', d, q, hdi, he⟩ := array_elem Tryz.underlying120 hd k hk
  obtain ⟨s, hs, hx, _⟩ := DataW.trod_string Tryz.underlying9 he
  rw [show Tryz.prog.cellsOf 9 = 1 by kernel_rfl] at hs
  have hkl : k < BLK.length := hk
  rw [List.getElem?_map, List.getElem?_eq_getElem hkl] at hdi
  have e2 : DataW.lit (Lit.string BLK[k]) = (DataW.lit (.string s.data.toList) : DataW Unit) := by
    have h1 : some _ = some d := hdi
    rw [Option.some.injEq] at h1
    exact h1.trans (Prod.mk.inj hx).1
  have e3 : BLK[k] = s.data.toList := by
    injection e2 with e2
    injection e2
  have h0 := congrArg (·[0]?) hs
  simp only [List.getElem?_take, List.getElem?_drop, Nat.mul_one] at h0
  rw [World.var?_cell hg hvar k, ← Array.getElem?_toList]
  have h1 : cs.toList[k]? = some (Value.string s) := by simpa using h0
  rw [h1, List.getD_eq_getElem?_getD, List.getElem?_eq_getElem hkl, Option.getD_some, e3]
theorem glServer {W : World} (h : laidMetH Tryz.prog Rows.serverParsesUptoRow.laid W) (hs : W.ShapedOpen Tryz.prog) : GS W := by
  rw [MakeChecks.laidMetH_plain _ _ _ (by kernel_rfl)] at h
  exact ⟨⟨⟨chars_of (laidMet.reads h (by simp [Rows.serverParsesUptoRow])), max_of hs⟩, res_of (laidMet.reads h (by simp [Rows.serverParsesUptoRow]))⟩, let_of (laidMet.reads h (by simp [Rows.serverParsesUptoRow])), taken_of (laidMet.reads h (by simp [Rows.serverParsesUptoRow])), blanks_of (laidMet.reads h (by simp [Rows.serverParsesUptoRow])), white_off (laidMet.reads h (by simp [Rows.serverParsesUptoRow])), ⟨pow_of (laidMet.reads h (by simp [Rows.serverParsesUptoRow])), err_of (laidMet.reads h (by simp [Rows.serverParsesUptoRow]))⟩⟩
end Go.Proofs.YtaphjbcnnkoffaaGreatDoor
namespace Go.Proofs.YtaphjbcnnkoffaaGreatDoor
open Go.ChangeShapes Go.WideShapes Go.ChangeAt Go.WideMaps Go.WideElems Go.RowKit TextNum
open Go.ChangeMaps (open_string shut_string)

theorem serverParses_met (os : Os) (args : Array Value) : laidMetH Tryz.prog Rows.serverParsesUptoRow.laid ((World.laidAll Tryz.prog os Rows.serverParsesUptoRow.laid).forCall (fun _ _ => 0) ⟨#[], args, []⟩).memory := by
  rw [MakeChecks.laidMetH_plain _ _ _ (by kernel_rfl)]
  exact laidMet_laidAll _ (by kernel_rfl) (by kernel_rfl)
theorem serverParses_reads (os : Os) {H : Type} (enc : TypeId × Value → H) : ∃ places, DataW.whole enc Tryz.prog ((World.laidAll Tryz.prog os Rows.serverParsesUptoRow.laid).forCall (fun _ _ => 0) ⟨#[], #[.slice none 0 0], []⟩).memory Tryz.f3.params.toList Rows.serverParsesSpec.vars false #[Value.slice none 0 0].toList 8 = some ([.nil], [], places) :=
  ⟨[], by kernel_rfl⟩
set_option maxHeartbeats 400000 in
set_option maxRecDepth 100000 in
theorem serverParses_contract (H : Type) (enc : TypeId × Value → H) (W : World) (base : Nat) (args : Array Value) (ds gs : List (DataW H)) (before : List MemPlace)
    (hval0 : ∀ (j : Nat) t v, Tryz.f3.params[j]? = some t → args[j]? = some v → Value.okWide Tryz.prog W .any base t v)
    (hW : DataW.Whole enc Tryz.prog Tryz.f3.params.toList Rows.serverParsesSpec.vars false W args.toList ds gs before) (hk : Rows.uptoSmall H (ds ++ gs) = true) (hL : laidMetH Tryz.prog Rows.serverParsesUptoRow.laid W) (hSh : W.ShapedOpen Tryz.prog) :
    Calls Tryz.prog 3 args W fun e W' => ∃ v, e = .returned v ∧ Rows.serverParsesSpec.post enc Tryz.prog Tryz.f3 false true false false W args v W' := by
  have hval : ∀ (j : Nat) t v, Tryz.f3.params[j]? = some t → args[j]? = some v → Value.okWide Tryz.prog W .any base t v := hval0
  have hW' := hW
  obtain ⟨p, q, hA0, hV, rfl, _, _⟩ := hW
  have hA : DataW.TrodAll enc Tryz.prog W 0 (fun _ => true) true Tryz.f3.params.toList args.toList ds p := hA0
  rw [Tryz.params3] at hA hval
  obtain ⟨v0, d0, rfl, rfl, h0⟩ := trodAll_one hA
  obtain ⟨rfl, rfl⟩ := trodVars_none hV
  have hv0 := hval 0 22 v0 rfl rfl
  clear hA0 hval0
  have hbk := of_decide_eq_true hk
  simp only [List.append_nil, Rows.uptoBulkAll, Nat.add_zero] at hbk
  simp only [List.append_nil] at hW'
  obtain ⟨a0, n0, c0, hv1⟩ := okWide_slice Tryz.underlying22 hv0
  obtain ⟨l0, hS0, hb0⟩ := open_bytes h0 a0 n0 c0 hv1
  subst hv1
  refine (ServerParses_walk W l0 hS0 (by omega) (glServer hL hSh)).mono fun e W' ⟨he, hg0⟩ => ?_
  have hg : Below W.heap.size W W' := hg0
  subst he
  exact ⟨_, rfl, post_of_old (pa := p) (pv := []) hW' (fun _ _ _ => trodAll_mk1 (shut_bool Tryz.underlying4 true)) (fun sp hsp => trodAll_mk1 (Trod_stays (by kernel_rfl) (by kernel_rfl) (of_decide_eq_true (by kernel_rfl)) h0 (fun x hx => Below.same hg (hW'.lt x (by simp [hx]))) (fun x hx => hsp x (by simp [hx])))) (fun _ _ => rfl) (by simp)
    (hg.frame _) (fun a ha => Below.frozen hg ha) (ok_one (by kernel_rfl) rfl (okWide_bool_mk Tryz.underlying4 true))⟩

set_option maxRecDepth 100000 in
theorem serverParses_lifted (os : Os) (started : os.Started) (H : Type) (enc : TypeId × Value → H) (F : Stop.Interp) :
    ReturnsInHanded {} Tryz.checked os 3 .any ((Rows.OpenSpec.upto Rows.serverParsesSpec).preRow enc Tryz.prog Tryz.f3 Rows.serverParsesUptoRow.domain false Rows.serverParsesUptoRow.laid) (((Rows.OpenSpec.upto Rows.serverParsesSpec).at F).post enc Tryz.prog Tryz.f3 false true false false) := by
  obtain ⟨places, hx⟩ := serverParses_reads os enc
  have hok : Input.okWideB Tryz.prog ((World.laidAll Tryz.prog os Rows.serverParsesUptoRow.laid).forCall (fun _ _ => 0) ⟨#[], #[.slice none 0 0], []⟩) 3 ⟨#[], #[.slice none 0 0], []⟩ = true := by kernel_rfl
  refine returnsInHanded_of_row (C := Tryz.checked) (s := Rows.OpenSpec.upto Rows.serverParsesSpec) Tryz.own started (by kernel_rfl) Tryz.func3
    ⟨World.laidAll Tryz.prog os Rows.serverParsesUptoRow.laid, fun _ _ => 0, ⟨#[], #[.slice none 0 0], []⟩, World.laidAll_os _ _ _, World.shaped_of_ZipB (by kernel_rfl) (by kernel_rfl), (Input.okWide_of_okWideB (base := 0) hok).1, (Input.okWide_of_okWideB hok).2,
      OpenSpec.preRow_of_cond 8 hx (by kernel_rfl) (fun k hk => by cases hk; kernel_rfl) (by kernel_rfl) (serverParses_met os _), by
        simp only [Assume.holds]
        exact ⟨by simp, by simp, fun _ => Modest.zero, by simp, by simp⟩⟩ ?_
  intro W base args ds gs before hval hW _ hcond _ hL hSh _
  exact serverParses_contract H enc W base args ds gs before hval hW (hcond _ rfl) hL hSh

theorem serverParses_upto : Rows.ServerParsesUptoSaid :=
  OpenClaim.holds_of_cond 3 Tryz.f3 rfl rfl rfl rfl rfl rfl rfl ⟨rfl, rfl, rfl, rfl, rfl⟩ rfl rfl rfl rfl rfl (by kernel_rfl) Tryz.func3 (by kernel_rfl)
    (of_decide_eq_true (by kernel_rfl)) (by unfold Func.isWrapper; first | (rw [if_pos (by decide +kernel)]; kernel_rfl) | (rw [if_neg (by decide +kernel)]; exact ⟨rfl, rfl⟩))
    (fun os started H enc _ F => by rw [OpenClaim.pre_eq_preRow]; exact serverParses_lifted os started H enc F)

theorem serverParsesUpto_card : Rows.ServerParsesUptoCardSaid :=
  Claim7.holds_tied_plain_at .later [] [.data, .data, .data, .data, .data, .data, .sentinel, .sentinel, .listed, .data, .data, .data, .pinned, .pinned] true (true, "575a010ec99870d19fc7f150e83271da42f106a6dd94c8cbd2e28e9b84fc63c5") true
    serverParses_upto (fun _ h => by cases h) (by kernel_rfl) (fun _ h => by cases h) serverParsesUpto_row_tie rfl ⟨rfl, rfl⟩ (by kernel_rfl) rfl
    (fun f fn hf hfn => by
      obtain rfl : f = 3 := Option.some.inj ((show Tryz.prog.funcNamed "ledger/ledgerlaw15.ServerParses" = some 3 by kernel_rfl).symm.trans hf) |>.symm
      obtain rfl : fn = Tryz.f3 := (Option.some.inj (Tryz.func3.symm.trans hfn)).symm
      exact ⟨by kernel_rfl, fun j t ht => by
        rw [Tryz.params3] at ht
        have hm : t ∈ [22] := by simpa using Array.mem_of_getElem? ht
        have hall : ([22].all fun u => !Tryz.prog.wantsStandIn u) = true := by kernel_rfl
        exact (show Tryz.prog.wantsStandIn t = false by simpa using List.all_eq_true.1 hall t hm)⟩)
    (by kernel_rfl)

#print axioms serverParsesUpto_card
end Go.Proofs.YtaphjbcnnkoffaaGreatDoor
