import Derived.Test.YtaibjeehjhlicaaDoorYbh
import Derived.Test.YtaibjeehjhlicaaDoorYbf
import Derived.Laws.OwnMore
namespace Go.Proofs.YtaibjeehjhlicaaDoor
open Go.RowKit Go.Shelf TextNum ModNum
/-- what is appended to may be read as it was, too -/
theorem app_both {w : World} (base : Nat) (t ty e : TypeId) (i : TypeInfo) (z : Value) (size bytes : Nat) (ht : Tryd.prog.underlying t = some (.slice e)) (hi : Tryd.prog.info? e = some i) (hz : i.zero = some z)
    (hsize : i.size = size) (hby : i.bytes = bytes) (hzs : z.cells.size = size) (hsz : 0 < size)
    (v : Value) (n : Nat) (xs : List Value) (hown : w.ownsRow base e size v n xs)
    (a : Addr) (m c : Nat) (news : List Value) (hl : news.length = m * size) (hnews : ∀ j u, news[j]? = some u → w.cell? (a.add j) = some u) (h1 : ∀ u ∈ news, u.oneCell' = true)
    (h63 : n + m ≤ maxLen) (hbytes : (n + m) * bytes ≤ 140737488355328) (hbase : base ≤ w.heap.size) :
    ∃ v' w', (Builtin.append_ #[t, t] ty #[v, .slice (some a) m c]).run Tryd.prog w = .ok v' w' ∧ w'.ownsRow base e size v' (n + m) (xs ++ news) ∧ w.grownBy w' v.ownBlock ∧ w'.ownsRow base e size v n xs ∧ (v'.ownBlock = v.ownBlock ∨ ∀ g, v'.ownBlock = some g → w.heap.size ≤ g) := by
  obtain ⟨v', w', hr, ho, hg, hnn⟩ := run_append_own (P := Tryd.prog) w base t ty e i z size bytes ht hi hz hsize hby hzs hsz v n xs hown a m c news hl hnews h1 h63 hbytes hbase
  refine ⟨v', w', hr, ho, hg, ?_⟩
  subst hsize
  subst hby
  have hsmall : n + m ≤ 9223372036854775807 := by simp only [maxLen] at h63; omega
  rcases hown.2 with ⟨rfl, rfl⟩ | ⟨g, cap, cur, rfl, hbg, hgx, hnc, hcm, hcs, htake⟩
  · have hx : xs = [] := List.eq_nil_of_length_eq_zero (by simpa using hown.1)
    subst hx
    refine ⟨World.ownsRow_nil w' base e i.size, ?_⟩
    by_cases hm : m = 0
    · exact .inl (by rw [hnn.2 ⟨rfl, hm⟩])
    · have hr2 := run_append_nil (P := Tryd.prog) w t ty e i z ht hi hz a m c news hl hnews (by omega) (by omega) (by have hb := hbytes; simp only [Nat.zero_add] at hb; omega)
      rw [hr2] at hr
      injection hr with hr3 hr4
      subst hr3
      refine .inr fun g hg' => ?_
      obtain rfl : w.heap.size = g := Option.some.inj hg'
      exact Nat.le_refl _
  · by_cases hroom : n + m ≤ cap
    · have hfit : n * i.size + news.length ≤ cur.size := by rw [hl, hcs, ← Nat.add_mul]; exact Nat.mul_le_mul_right _ hroom
      have hr2 := run_append_room (P := Tryd.prog) w t ty e i ht hi g n cap cur hgx a m c news hl hnews h1 hroom hfit
      rw [hr2] at hr
      injection hr with hr3 hr4
      subst hr3
      subst hr4
      refine ⟨⟨hown.1, .inr ⟨g, cap, _, rfl, hbg, setRow_heap w g cur _ e _ hgx, hnc, hcm, ?_, ?_⟩⟩, .inl rfl⟩
      · simp only [List.size_toArray, List.length_append, List.length_take, List.length_drop, Array.length_toList]
        omega
      · rw [htake, List.append_assoc, ← hown.1]
        exact List.take_left
    · have holds : ∀ j u, xs[j]? = some u → w.cell? ((⟨g, 0, none⟩ : Addr).add j) = some u := hown.cells (g := g) rfl
      have hr2 := run_append_grow (P := Tryd.prog) w t ty e i z ht hi hz ⟨g, 0, none⟩ n cap xs hown.1 holds a m c news hl hnews (by omega) (by omega) (growslice_fits (by omega) hbytes)
      rw [hr2] at hr
      injection hr with hr3 hr4
      subst hr3
      subst hr4
      refine ⟨World.ownsRow.kept hown (row := none) ⟨rfl, rfl, rfl, by simp, fun k hk _ => heap_alloc_old w.drew _ hk⟩ (.inr (by simp [Value.ownBlock])), .inr fun g' hg' => ?_⟩
      obtain rfl : w.heap.size = g' := Option.some.inj hg'
      exact Nat.le_refl _
theorem Ow.put {w : World} {B g n c : Nat} {l : List UInt8} (h : Ow w B (.slice (some ⟨g, 0, none⟩) n c) l) (hn : n = l.length) (j : Nat) (y : UInt8) : Ow (w.setCell ⟨g, j, none⟩ (vb y)) B (.slice (some ⟨g, 0, none⟩) n c) (l.set j y) ∧ w.grownBy (w.setCell ⟨g, j, none⟩ (vb y)) (some g) := by
  subst hn
  have := World.ownsRow.stored h j (vb y)
  refine ⟨?_, this.2⟩
  unfold Ow
  rw [List.length_set]
  have e : cb (l.set j y) = (cb l).set j (vb y) := by simp [cb, List.map_set, vb]
  rw [e]
  exact this.1
theorem wpList_appB {w : World} {N q : Nat} {ops : Array Oper} {rest : List Oper} {o : Oper} {a : Act} {Q : Exit → Act → World → Prop} (hgd : o.guard = none) (x y : Operand)
    (ho : o.op = .call { callee := .builtin .append, args := #[x, y], argTypes := #[27, 27] }) (ax : Option Addr) (cx : Nat) (xs : List UInt8) (k : UInt8) (hx : a.eval x = .slice ax q cx) (hy : a.eval y = .slice (some ⟨w.heap.size, 0, none⟩) 1 1)
    (hR : w.ownsRow N 5 1 (.slice ax q cx) q (cb xs)) (hNw : N ≤ w.heap.size) (hql : q ≤ 1099511627776)
    (K : ∀ ax2 cx2 w', w'.ownsRow N 5 1 (.slice ax2 (q + 1) cx2) (q + 1) (cb (xs ++ [k])) → w'.ownsRow N 5 1 (.slice ax q cx) q (cb xs) → w.grownBy w' (Value.slice ax q cx).ownBlock → ((Value.slice ax2 (q + 1) cx2).ownBlock = (Value.slice ax q cx).ownBlock ∨ ∀ g, (Value.slice ax2 (q + 1) cx2).ownBlock = some g → w.heap.size ≤ g) → wpList Tryd.prog ops Q rest (a.put o.dst (.slice ax2 (q + 1) cx2)) w') :
    wpList Tryd.prog ops Q (o :: rest) a (w.alloc (.cells #[vb k] 5)) := by
  obtain ⟨i0, hi0, hz0, hz1, hz2⟩ := info_parts Tryd.infoU8
  have HUx := (Up.refl w).alloc (.cells #[vb k] 5)
  have hnu := ow_up hR HUx
  obtain ⟨v', w', hr, h2, h3, h4, h5⟩ := app_both (w := w.alloc (.cells #[vb k] 5)) N 27 o.type 5 i0 (.int .u8 0) 1 1 Tryd.underlying27 hi0 hz0 hz1 hz2 rfl (by omega) (.slice ax q cx) q (cb xs) hnu ⟨w.heap.size, 0, none⟩ 1 1 [vb k] rfl
    (fun j u hu => by
      rw [Addr.add_lit]
      exact At.cell (at_new w 5 [vb k]) (i := 0 + j) (by rw [Nat.zero_add]; exact hu))
    (fun u hu => by
      simp only [List.mem_singleton] at hu
      subst hu
      rfl) (by simp only [maxLen]; omega) (by omega) (by rw [alloc_size]; omega)
  obtain ⟨a4, c4, rfl⟩ := row_len h2
  refine wpList_plain hgd fun K2 hK => ?_
  unfold Oper.wp execOp
  simp only [ho, resolve, invoke, builtin, Sem.run_bind, Sem.run_pure, Result.andThen_ok, List.map_toArray, List.map_cons, List.map_nil, hx, hy, hr]
  exact hK _ _ (K a4 c4 w' (by rw [cb_append]; exact h2) h4 (up_grown HUx h3) (h5.imp id (fun h g hg => Nat.le_trans (by rw [alloc_size]; omega) (h g hg))))
set_option maxRecDepth 100000 in
set_option maxHeartbeats 2000000 in
theorem spare_walk (v : Value) (ds : List UInt8) (w : World) (hd : Sb w v ds) (hl : ds.length ≤ 140737488355328) (hl2 : ds.length ≤ 1099511627000) :
    Calls Tryd.prog 18 #[v] w fun e w' => ∃ v', e = .returned v' ∧ Ow w' w.heap.size v' (ds ++ List.replicate 300 9) ∧ Up w w' := by
  have HC := Hid.of (copied_walk v ds w hd hl)
  obtain ⟨a, c, rfl, _⟩ := hd
  go_enter Tryd.func18, Tryd.ntmps18
  go_wp2_with fail
  refine HC.out.mono ?_
  rintro e w2 ⟨v2, rfl, o2, u2⟩
  obtain ⟨a2, c2, rfl⟩ := row_len o2
  have HO2 := Hid.of o2
  have HU2 := Hid.of u2
  clear o2 u2 HC
  dsimp only
  go_wp2
  go_loopw [3, 4] (fun v3 v4 wr => ∃ i : Nat, v4 = .int .i64 (i : Int) ∧ i ≤ 300 ∧ ∃ a3 c3, v3 = .slice a3 (ds.length + i) c3 ∧ Hid (wr.ownsRow w.heap.size 5 1 (.slice a3 (ds.length + i) c3) (ds.length + i) (cb (ds ++ List.replicate i 9)) ∧ Up w wr)) (fun _ v4 _ => 300 - (intOf v4).toNat)
  case atStart => exact ⟨0, rfl, by omega, a2, c2, rfl, Hid.of ⟨by simpa using HO2.out, HU2.out⟩⟩
  case round =>
    obtain ⟨i, rfl, hi, a3, c3, rfl, hR⟩ := hrel
    have HR := Hid.of hR.out
    clear hR
    by_cases hlt : i < 300
    · have hz : (i : Int) < 300 := by omega
      go_wp2_with (with_reducible show wpList _ _ _ ({ dst := _, op := Op.call { callee := Callee.builtin Builtin.append, args := _, argTypes := _ }, type := _, pos := _, after := _, guard := _ } :: _) _ _; refine Shut.out ?_)
      show wpList _ _ _ _ _ _
      refine wpList_appB (N := w.heap.size) (q := ds.length + i) rfl _ _ rfl a3 c3 (ds ++ List.replicate i 9) 9 rfl rfl HR.out.1 HR.out.2.size (by omega) ?_
      intro ax2 cx2 w4 o4 _ g4 _
      have HR4 := Hid.of (show w4.ownsRow w.heap.size 5 1 (.slice ax2 (ds.length + (i + 1)) cx2) (ds.length + (i + 1)) (cb (ds ++ List.replicate (i + 1) 9)) ∧ Up w w4 from ⟨by
        have e : ds ++ List.replicate (i + 1) 9 = ds ++ List.replicate i 9 ++ [9] := by rw [List.replicate_succ', List.append_assoc]
        rw [e]
        exact o4, up_grownBy HR.out.2 g4 (fun k hk => (World.ownsRow.lt HR.out.1 k hk).1)⟩)
      clear o4 g4
      simp only [Act.put, List.setIfInBounds_toArray, List.set_cons_zero, List.set_cons_succ]
      go_wp2
      go_roundw
      all_goals first
        | exact ⟨i + 1, by go_num, by omega, ax2, cx2, rfl, Hid.of HR4.out⟩
        | (simp [intOf]; omega)
    · have hie : i = 300 := by omega
      subst hie
      go_wp2
      go_ret
      exact ⟨_, rfl, by unfold Ow; rw [List.length_append, List.length_replicate]; exact HR.out.1, HR.out.2⟩
theorem Sb.take {w : World} {a : Option Addr} {ds : List UInt8} {c : Nat} (h : Sb w (.slice a ds.length c) ds) (n : Nat) (hn : n ≤ ds.length) : Sb w (.slice a n c) (ds.take n) := by
  obtain ⟨a2, c2, e, h1, h2, h3, h4⟩ := h
  injection e with e1 _ e3
  subst e1 e3
  have hl : (ds.take n).length = n := by rw [List.length_take]; omega
  refine ⟨a, c, by rw [hl], by rw [hl]; omega, h2, fun e => ?_, fun ad e => ⟨fun hne => (h4 ad e).1 (fun e2 => hne (by rw [e2]; simp)), fun j u hj => (h4 ad e).2 j u ?_⟩⟩
  · have := h3 e
    rw [this.1]
    exact ⟨by simp, this.2⟩
  · unfold cb at hj ⊢
    rw [List.map_take] at hj
    have hjn : j < n := by
      have := (List.getElem?_eq_some_iff.1 hj).1
      rw [List.length_take] at this
      omega
    rw [List.getElem?_take, if_pos hjn] at hj
    exact hj
/-- where a walk goes on behind one operation, and nowhere else -/
def onto (K : Act → World → Prop) : Exit → Act → World → Prop
  | .normal, a, w => K a w
  | _, _, _ => False
/-- an operation of a region that draws is run by a law about lists -/
theorem oper_of_list {P : Program} {ops : Array Oper} {Q : Exit → Act → World → Prop} {K : Act → World → Prop} {o : Oper} {a : Act} {w : World} (h : wpList P ops (onto K) [o] a w) : if Region.wanted o (yielded ops a.tmps) = true then Oper.wp P o a w K Q else K (a.put o.dst undef) w := by
  unfold wpList at h
  split
  · rename_i hw
    rw [if_pos hw] at h
    rcases h with h | ⟨_, ⟨_, _, h⟩⟩
    · have e : wpList P ops (onto K) [] = K := rfl
      rw [e] at h
      unfold Oper.wp at *
      generalize (execOp a.eval o).run P w = r at *
      cases r with
      | ok n w' =>
        cases n <;> simp only [Oper.upon] at h ⊢
        case value u => exact h
        case skip => exact h
        case defer d => exact h
        case enter f args =>
          refine Calls.mono h fun e w'' he => ?_
          cases e with
          | returned u => exact he
          | panicked c => exact he.elim
          | outgrown =>
            obtain ⟨_, _, h⟩ := he
            exact h.elim
        case row row args => exact h
      | halt x w' =>
        cases x <;> simp only [Oper.upon] at h ⊢
        case panic u => exact h.elim
    · exact h.elim
  · rename_i hw
    rw [if_neg hw] at h
    exact h
theorem Fr.cell {S : Nat → Prop} {w w' : World} (h : Fr S w w') {p : Addr} {v : Value} (hp : w.cell? p = some v) (hS : ¬ S p.block) : w'.cell? p = some v := by
  have hb := h.block _ (World.block_lt_of_cell? w p hp) hS
  unfold World.cell? at hp ⊢
  rw [hb]
  exact hp
theorem Tryd.infoSl1 : (Tryd.prog.info? 27).map (fun i => (i.zero, i.size, i.bytes)) = some (some (.slice none 0 0), 1, 24) := by kernel_rfl
/-- files whose bytes lie apart -/
def PWf (fs : List GF) : Prop := fs.Pairwise fun g h => ∀ k, g.v.ownBlock = some k → h.v.ownBlock ≠ some k
abbrev pr (g : GF) : List UInt8 × List UInt8 := (g.nm.data.toList, g.ds)
theorem FsO.some {w : World} {N : Nat} {a : Option Addr} {fs : List GF} {c i : Nat} (h : FsO w N a fs c) (hi : i < fs.length) : ∃ ga, a = some ⟨ga, 0, none⟩ ∧ N ≤ ga ∧ w.cell? ⟨ga, i * 2, none⟩ = some (.string fs[i].nm) ∧ w.cell? ⟨ga, i * 2 + 1, none⟩ = some fs[i].v ∧ w.frozen? ⟨ga, i * 2, none⟩ = false := by
  rcases h.row.2 with ⟨_, h0⟩ | ⟨g, cap, cur, e, _⟩
  · omega
  · injection e with e1 e2 e3
    subst e1
    have k1 := World.ownsRow.cells h.row (g := g) rfl (i * 2) _ (fcs_get fs hi).1
    have k2 := World.ownsRow.cells h.row (g := g) rfl (i * 2 + 1) _ (fcs_get fs hi).2
    rw [Addr.add_lit, Nat.zero_add] at k1 k2
    exact ⟨g, rfl, (World.ownsRow.lt h.row g rfl).1, k1, k2, World.ownsRow.frozenAt h.row _⟩
theorem sb_at {w : World} {b : Nat} {ds : List UInt8} (h : At w b 5 (cb ds)) (hl : ds.length ≤ maxLen) : Sb w (.slice (some ⟨b, 0, none⟩) ds.length ds.length) ds := by
  refine ⟨_, _, rfl, Nat.le_refl _, hl, fun e => (by cases e), fun ad e => ?_⟩
  obtain rfl := Option.some.inj e
  refine ⟨fun _ => rfl, fun j u hj => ?_⟩
  rw [Addr.add_lit]
  exact h.cell (i := 0 + j) (by rw [Nat.zero_add]; exact hj)
theorem fsOf_len (nf : List (List UInt8 × FL)) : (fsOf nf).length = nf.length := by
  unfold fsOf
  rw [List.length_map, srt_len, List.length_map]
theorem fsOf_fst (nf : List (List UInt8 × FL)) : (fsOf nf).map Prod.fst = srt (nf.map (·.1)) := by
  unfold fsOf
  rw [List.map_map]
  exact List.map_id _
set_option maxRecDepth 100000 in
theorem Acts_gen {B D T : Nat} {s : DD} (w : World) (h : DOk w B D T s) : Calls Tryd.prog 10 #[pv D] w fun e w' => e = .returned (.int .i64 (s.acts : Int)) ∧ w' = w := by
  have c9 := h.disk.cell (i := 9) rfl
  clear h
  go_enter Tryd.func10, Tryd.ntmps10
  go_wp2
  go_ret
  exact ⟨rfl, rfl⟩
set_option maxRecDepth 100000 in
set_option maxHeartbeats 1000000 in
theorem Pending_gen {B D T : Nat} {s : DD} (w : World) (h : DOk w B D T s) : Calls Tryd.prog 9 #[pv D] w fun e w' => e = .returned (.int .i64 ((s.chs.length + lsd (fls s) : Nat) : Int)) ∧ Up w w' := by
  have hn := h.num
  obtain ⟨aC, cC, hvC⟩ := row_len h.rowC
  have c5 := h.disk.cell (i := 5) rfl
  have c7 := h.disk.cell (i := 7) rfl
  rw [hvC] at c5
  have c5' : w.drew.cell? ⟨D, 5, none⟩ = some (.slice aC s.chs.length cC) := c5
  have c7' : w.drew.cell? ⟨D, 7, none⟩ = some (.int .i64 (lsd (fls s) : Int)) := c7
  have h1 : s.chs.length ≤ 100000 := by omega
  have h2 : lsd (fls s) ≤ 100000 := by omega
  generalize s.chs.length = n1 at *
  generalize lsd (fls s) = n2 at *
  clear h hn hvC
  go_enter Tryd.func9, Tryd.ntmps9
  have mixed : Tryd.prog.follows .mixedOrders = true := by kernel_rfl
  go_wp2
  go_quiet (fail)
  go_wp2
  go_ret
  exact ⟨by go_num, (Up.refl w).drewN _⟩
set_option maxRecDepth 100000 in
set_option maxHeartbeats 2000000 in
theorem spared_gen (v : Value) (ds : List UInt8) (w : World) (hS : Sb w v (ds ++ List.replicate 300 9)) (hln : ds.length ≤ 1099511627776) :
    Calls Tryd.prog 19 #[v, .string ⟨ds.toArray⟩] w fun e w' => e = .returned (.bool true) ∧ w' = w := by
  have HS := Hid.of hS
  obtain ⟨a, c, rfl, h1, h2, h3, h4⟩ := hS
  have hl : (ds ++ List.replicate 300 9 : List UInt8).length = ds.length + 300 := by rw [List.length_append, List.length_replicate]
  rw [hl] at h1 HS ⊢
  cases a with
  | none => have := (h3 rfl).1; have h5 := congrArg List.length this; rw [hl] at h5; simp at h5
  | some ad =>
    obtain ⟨b, off, sp⟩ := ad
    obtain ⟨hsp, hcell⟩ := h4 _ rfl
    obtain rfl : sp = none := hsp (fun e => by have h5 := congrArg List.length e; rw [hl] at h5; simp at h5)
    obtain ⟨n, hn⟩ : ∃ n, ds.length = n := ⟨_, rfl⟩
    have HCe := Hid.of (show ∀ i, n ≤ i → i < n + 300 → w.cell? ⟨b, off + i, none⟩ = some (.int .u8 9) from fun i hi hi2 => by
      have h5 := hcell i (.int .u8 9) (by
        rw [cb_append, List.getElem?_append_right (by rw [cb_length, hn]; exact hi)]
        have e : (cb (List.replicate 300 9))[i - n]? = some (.int .u8 9) := by
          rw [cb_get (by rw [List.length_replicate]; omega), List.getElem_replicate]
          rfl
        rw [cb_length, hn]
        exact e)
      rw [Addr.add_lit] at h5
      exact h5)
    have HT := Hid.of (show Sb w (.slice (some ⟨b, off, none⟩) n c) ds from by
      have h6 := Sb.take (ds := ds ++ List.replicate 300 9) (by rw [hl]; exact HS.out) n (by rw [hl]; omega)
      rw [← hn, List.take_left] at h6
      rw [← hn]
      exact h6)
    have hcv : (convert 27 9 (.slice (some ⟨b, off, none⟩) n c)).run Tryd.prog w = .ok (.string ⟨ds.toArray⟩) w := conv_sb2 HT.out
    rw [hn] at h1 HS hl hln ⊢
    have HN := Hid.of hn
    have hcz : (n : Int) + 300 ≤ (c : Int) := by omega
    have hc3 : (n : Int) ≤ (c : Int) := by omega
    have hsz : (⟨ds.toArray⟩ : ByteArray).size = n := by rw [Go.Lib.size_eq]; exact hn
    clear hcell h4 h3 h2 hl HS hn
    go_enter Tryd.func19, Tryd.ntmps19
    go_wp2
    go_loopw [5] (fun v5 wr => ∃ i : Nat, v5 = .int .i64 (i : Int) ∧ n ≤ i ∧ i ≤ n + 300 ∧ Hid (wr = w)) (fun v5 _ => n + 300 - (intOf v5).toNat)
    case atStart => exact ⟨n, by first | rfl | (rw [hsz]) | (simp [hsz]), by omega, by omega, Hid.of rfl⟩
    case round =>
      obtain ⟨i, rfl, hi1, hi2, hR⟩ := hrel
      obtain rfl := hR.out
      clear hR
      by_cases hlt : i < n + 300
      · have hz : (i : Int) < (n : Int) + 300 := by omega
        have k1 := HCe.out i hi1 hlt
        go_wp2
        go_roundw
        all_goals first
          | exact ⟨i + 1, by go_num, by omega, by omega, Hid.of trivial⟩
          | (simp [intOf]; omega)
      · have hie : i = n + 300 := by omega
        subst hie
        have hz : ¬ ((n : Int) + 300) < (n : Int) + 300 := by omega
        go_wp2
        go_ret
        exact ⟨by simp, rfl⟩
theorem exec_idxLF {o : Oper} {ρ : Operand → Value} {x y : Operand} {w : World} {b off n c : Nat} (i : Nat) (hi : i < n) (ho : o.op = .indexAddr 22 x y) (hx : ρ x = .slice (some ⟨b, off, none⟩) n c) (hy : ρ y = .int .i64 (i : Int)) : (execOp ρ o).run Tryd.prog w = .ok (.value (.pointer (some ⟨b, off + i * 2, none⟩))) w := by
  have hi' : (i : Int) < (n : Int) := by omega
  unfold execOp
  simp only [ho, hx, hy]
  go_simp
theorem Ow.pre {w : World} {N g m c : Nat} {ds xs : List UInt8} (h : Ow w N (.slice (some ⟨g, 0, none⟩) m c) (ds ++ xs)) : Ow w N (.slice (some ⟨g, 0, none⟩) ds.length c) ds := by
  unfold Ow at h ⊢
  refine ⟨by rw [cb_length, Nat.mul_one], ?_⟩
  rcases h.2 with ⟨e, _⟩ | ⟨g', cap, cur, e, h1, h2, h3, h4, h5, h6⟩
  · cases e
  · injection e with e1 e2 e3
    injection e1 with e1
    injection e1 with e1
    subst e1
    subst e3
    rw [List.length_append] at h3 h6
    refine .inr ⟨g, c, cur, rfl, h1, h2, by omega, h4, h5, ?_⟩
    have h7 := congrArg (List.take (ds.length * 1)) h6
    rw [List.take_take, Nat.min_eq_left (by omega)] at h7
    refine h7.trans ?_
    rw [cb_append, List.take_append_of_le_length (by rw [cb_length]; omega)]
    exact List.take_of_length_le (by rw [cb_length]; omega)
/-- a file of the hundred that stand behind -/
def hsh : GF := ⟨⟨#[35, 35]⟩, .slice none 0 0, []⟩
/-- files that are handed in, each in the front of a longer list -/
structure Lent (w : World) (N : Nat) (a : Option Addr) (c n : Nat) (fs : List GF) (k : Nat) (aw : Option Addr) (cw m : Nat) (vs : List Value) : Prop where
  fl : fs.length = n
  vl : vs.length = m
  out : FsO w N a (fs ++ List.replicate k hsh) c
  row : w.ownsRow N 27 1 (.slice aw m cw) m vs
  el : ∀ i (_ : i < fs.length) (_ : i < vs.length), ∃ g c', fs[i].v = .slice (some ⟨g, 0, none⟩) fs[i].ds.length c' ∧ vs[i] = .slice (some ⟨g, 0, none⟩) (fs[i].ds.length + 300) c' ∧ Ow w N vs[i] (fs[i].ds ++ List.replicate 300 9)
  pw : PWf fs
theorem Lent.up {w w' : World} {N c n k cw m : Nat} {a aw : Option Addr} {fs : List GF} {vs : List Value} (h : Lent w N a c n fs k aw cw m vs) (u : Up w w') : Lent w' N a c n fs k aw cw m vs :=
  ⟨h.fl, h.vl, h.out.up u, ow_up h.row u, fun i h1 h2 => by
    obtain ⟨g, c', e1, e2, e3⟩ := h.el i h1 h2
    exact ⟨g, c', e1, e2, ow_up e3 u⟩, h.pw⟩
/-- one more of the longer lists -/
theorem Lent.wide {w w9 : World} {N c n cw m c9 : Nat} {a aw a9 : Option Addr} {fs : List GF} {vs : List Value} {v : Value} (h : Lent w N a c n fs 0 aw cw m vs) (hm : n ≤ m) (o9 : w9.ownsRow N 27 1 (.slice a9 (m + 1) c9) (m + 1) (vs ++ [v])) (g9 : w.grownBy w9 (Value.slice aw m cw).ownBlock) : Lent w9 N a c n fs 0 a9 c9 (m + 1) (vs ++ [v]) := by
  have key : ∀ u ds, Ow w N u ds → Ow w9 N u ds := fun u ds hu => World.ownsRow.kept hu g9 (own_off' hu h.row (by decide))
  refine ⟨h.fl, by rw [List.length_append, h.vl]; rfl, ⟨World.ownsRow.kept h.out.row g9 (own_off' h.out.row h.row (by decide)), fun q hq => key _ _ (h.out.dat q hq)⟩, o9, fun i h1 h2 => ?_, h.pw⟩
  have hv : i < vs.length := by rw [h.vl]; have := h.fl; omega
  rw [List.getElem_append_left hv]
  obtain ⟨g, c', e1, e2, e3⟩ := h.el i h1 hv
  exact ⟨g, c', e1, e2, key _ _ e3⟩
/-- one more file -/
theorem Lent.file {w w9 : World} {N c n cw c9 : Nat} {a aw a9 : Option Addr} {fs : List GF} {vs : List Value} {q : GF} (h : Lent w N a c n fs 0 aw cw (n + 1) vs) (o9 : FsO w9 N a9 (fs ++ [q]) c9) (g9 : w.grownBy w9 (Value.slice a n c).ownBlock) {gb cb' : Nat} (hv : ∀ hh : n < vs.length, q.v = .slice (some ⟨gb, 0, none⟩) q.ds.length cb' ∧ vs[n] = .slice (some ⟨gb, 0, none⟩) (q.ds.length + 300) cb' ∧ Ow w N vs[n] (q.ds ++ List.replicate 300 9)) (hp : ∀ p ∈ fs, ∀ k, p.v.ownBlock = some k → q.v.ownBlock ≠ some k) : Lent w9 N a9 c9 (n + 1) (fs ++ [q]) 0 aw cw (n + 1) vs := by
  have hr : w.ownsRow N 29 2 (.slice a n c) n (fcs fs) := by
    have h5 := h.out.row
    rw [List.replicate_zero, List.append_nil, h.fl] at h5
    exact h5
  have key : ∀ u ds, Ow w N u ds → Ow w9 N u ds := fun u ds hu => World.ownsRow.kept hu g9 (own_off' hu hr (by decide))
  refine ⟨by rw [List.length_append, h.fl]; rfl, h.vl, by rw [List.replicate_zero, List.append_nil]; exact o9, World.ownsRow.kept h.row g9 (own_off' h.row hr (by decide)), fun i h1 h2 => ?_, ?_⟩
  · by_cases hi : i < fs.length
    · rw [List.getElem_append_left hi]
      obtain ⟨g, c', e1, e2, e3⟩ := h.el i hi h2
      exact ⟨g, c', e1, e2, key _ _ e3⟩
    · have hin : i = n := by rw [List.length_append, h.fl] at h1; rw [h.fl] at hi; simp at h1; omega
      subst hin
      rw [List.getElem_append_right (by rw [h.fl]; exact Nat.le_refl _)]
      simp only [h.fl, Nat.sub_self, List.getElem_cons_zero]
      obtain ⟨e1, e2, e3⟩ := hv h2
      exact ⟨gb, cb', e1, e2, key _ _ e3⟩
  · exact List.pairwise_append.2 ⟨h.pw, List.pairwise_singleton _ _, fun p hp2 q2 hq2 k hk => by
      obtain rfl := List.mem_singleton.1 hq2
      exact hp p hp2 k hk⟩
/-- one more of the hundred -/
theorem Lent.hash {w w9 : World} {N c n k cw c9 : Nat} {a aw a9 : Option Addr} {fs : List GF} {vs : List Value} (h : Lent w N a c n fs k aw cw n vs) (o9 : FsO w9 N a9 (fs ++ List.replicate k hsh ++ [hsh]) c9) (g9 : w.grownBy w9 (Value.slice a (n + k) c).ownBlock) : Lent w9 N a9 c9 n fs (k + 1) aw cw n vs := by
  have hr : w.ownsRow N 29 2 (.slice a (n + k) c) (n + k) (fcs (fs ++ List.replicate k hsh)) := by
    have h5 := h.out.row
    rw [List.length_append, List.length_replicate, h.fl] at h5
    exact h5
  have key : ∀ u ds, Ow w N u ds → Ow w9 N u ds := fun u ds hu => World.ownsRow.kept hu g9 (own_off' hu hr (by decide))
  refine ⟨h.fl, h.vl, by rw [List.replicate_succ', ← List.append_assoc]; exact o9, World.ownsRow.kept h.row g9 (own_off' h.row hr (by decide)), fun i h1 h2 => ?_, h.pw⟩
  obtain ⟨g, c', e1, e2, e3⟩ := h.el i h1 h2
  exact ⟨g, c', e1, e2, key _ _ e3⟩
theorem ow_some5 {w : World} {N : Nat} {v : Value} {ds : List UInt8} (h : Ow w N v (ds ++ List.replicate 300 9)) : ∃ g c, v = .slice (some ⟨g, 0, none⟩) (ds.length + 300) c ∧ ds.length + 300 ≤ c ∧ N ≤ g ∧ g < w.heap.size ∧ True := by
  have hl : (ds ++ List.replicate 300 9 : List UInt8).length = ds.length + 300 := by rw [List.length_append, List.length_replicate]
  unfold Ow at h
  rw [hl] at h
  rcases h.2 with ⟨_, h0⟩ | ⟨g, cap, cur, e, h1, h2, h3, _⟩
  · omega
  · subst e
    exact ⟨g, cap, rfl, h3, h1, (World.ownsRow.lt h g rfl).2, trivial⟩
end Go.Proofs.YtaibjeehjhlicaaDoor
