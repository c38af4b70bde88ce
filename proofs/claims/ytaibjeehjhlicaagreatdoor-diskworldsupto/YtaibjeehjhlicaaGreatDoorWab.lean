import Derived.Test.YtaibjeehjhlicaaGreatDoorUaa
import Derived.Laws.OwnMore
import Derived.Test.YtaibjeehjhlicaaGreatDoorQba
import Derived.Test.YtaibjeehjhlicaaGreatDoorRows
namespace Go.Proofs.YtaibjeehjhlicaaGreatDoor
open Go.RowKit Go.Shelf TextNum ModNum
set_option maxRecDepth 100000 in
set_option maxHeartbeats 1000000 in
theorem within_one (n : Int) (m : Nat) (hb : m ≤ 4611686018427387904) (w : World) : Calls Tryz.prog 24 #[.int .i64 n, .int .i64 1, .int .i64 ((m : Int) + 1)] w fun e w' => ∃ k : Nat, 1 ≤ k ∧ k ≤ m + 1 ∧ e = .returned (.int .i64 (k : Int)) ∧ w' = w := by
  have h1 := Int.tmod_lt_of_pos n (show (0 : Int) < (m : Int) + 1 by omega)
  have h2 : -((m : Int) + 1) < n.tmod ((m : Int) + 1) := by
    have h3 := Int.tmod_lt_of_pos (-n) (show (0 : Int) < (m : Int) + 1 by omega)
    rw [Int.neg_tmod] at h3
    omega
  have hm0 : (((m : Int) + 1) == 0) = false := by rw [beq_eq_false_iff_ne]; omega
  have he : (m : Int) + 1 - 1 + 1 = (m : Int) + 1 := by omega
  generalize hr : n.tmod ((m : Int) + 1) = r at *
  by_cases hz : r < 0
  · go_enter Tryz.func24, Tryz.ntmps24
    go_wp2
    go_ret
    exact ⟨(r + (m : Int) + 2).toNat, by omega, by omega, congrArg (fun z : Int => Ending.returned (Value.int .i64 z)) (by omega), rfl⟩
  · go_enter Tryz.func24, Tryz.ntmps24
    go_wp2
    go_ret
    exact ⟨(1 + r).toNat, by omega, by omega, congrArg (fun z : Int => Ending.returned (Value.int .i64 z)) (by omega), rfl⟩
set_option maxRecDepth 100000 in
set_option maxHeartbeats 2000000 in
/-- a new disk, on which nothing is played -/
theorem begun_nil (B : Nat) (w : World) (hG : ML w) (hB : B ≤ w.heap.size) (hl : 0 < B) :
    Calls Tryz.prog 9 #[.slice none 0 0] w fun e w' => ∃ D M L, e = .returned (pv D) ∧ DOk w' B D 0 (nwS 1099511627776 M L) ∧ (∀ k, own D (nwS 1099511627776 M L) k → w.heap.size ≤ k) ∧ Up w w' := by
  have HNew := Hid.of (New_gen 1099511627776 B (by omega) w hG hB hl)
  clear hG
  go_enter Tryz.func9, Tryz.ntmps9
  go_wp2_with fail
  refine HNew.out.mono ?_
  rintro e w2 ⟨D, M, L, rfl, k2, l2, u2⟩
  have HJ2 := Hid.of (And.intro k2 (And.intro l2 u2))
  clear k2 l2 u2 HNew
  dsimp only
  have hpn : ∀ w', (binOp .eql 24 (.pointer (some ⟨D, 0, none⟩)) (.pointer none)).run Tryz.prog w' = .ok (.bool false) w' := fun w' => by kernel_rfl
  go_wp2
  go_loopw [5] (fun v5 wr => v5 = .int .i64 0 ∧ Hid (wr = w2)) (fun _ _ => 0)
  case atStart => exact ⟨rfl, Hid.of rfl⟩
  case round =>
    obtain ⟨rfl, hU⟩ := hrel
    go_wp2
    go_ret
    refine ⟨D, M, L, rfl, ?_⟩
    rw [hU.out]
    exact HJ2.out
/-- two disks beside each other -/
structure B2 (W w : World) (Da Db Ta Tb Ka Kb : Nat) (sa sb : DD) : Prop where
  a : BJ W w Da Ta Ka sa
  b : BJ W w Db Tb Kb sb
  dis : ∀ k, own Da sa k → ¬ own Db sb k
theorem B2.swap {W w : World} {Da Db Ta Tb Ka Kb : Nat} {sa sb : DD} (h : B2 W w Da Db Ta Tb Ka Kb sa sb) : B2 W w Db Da Tb Ta Kb Ka sb sa := ⟨h.b, h.a, fun k hb ha => h.dis k ha hb⟩
theorem B2.upTo {W w w' : World} {Da Db Ta Tb Ka Kb : Nat} {sa sb : DD} (h : B2 W w Da Db Ta Tb Ka Kb sa sb) (u : Up w w') : B2 W w' Da Db Ta Tb Ka Kb sa sb := ⟨h.a.upTo u, h.b.upTo u, h.dis⟩
theorem B2.more {W w : World} {Da Db Ta Tb Ka Kb Ta' Tb' Ka' Kb' : Nat} {sa sb : DD} (h : B2 W w Da Db Ta Tb Ka Kb sa sb) (h1 : Ta ≤ Ta') (h2 : Ta' ≤ 100000) (h3 : Ka ≤ Ka') (h4 : Tb ≤ Tb') (h5 : Tb' ≤ 100000) (h6 : Kb ≤ Kb') : B2 W w Da Db Ta' Tb' Ka' Kb' sa sb := ⟨h.a.more h1 h2 h3, h.b.more h4 h5 h6, h.dis⟩
/-- something is done to the first -/
theorem B2.chg {W w w' : World} {Da Db Ta Ta' Tb Ka Ka' Kb : Nat} {sa sa' sb : DD} (h : B2 W w Da Db Ta Tb Ka Kb sa sb) (k : DOk w' W.heap.size Da Ta' sa') (f : Fr (own Da sa) w w') (n : Nw w.heap.size Da sa sa') (iv : IV Ka' sa') : B2 W w' Da Db Ta' Tb Ka' Kb sa' sb := by
  have hu := up_disk h.a.up h.a.lo f
  refine ⟨⟨k, hu, lo_disk h.a.up h.a.lo n, iv⟩, ⟨h.b.ok.fr f (fun b hb ha => h.dis b ha hb) (fun hm => ?_), hu, h.b.lo, h.b.iv⟩, fun b hb hb2 => ?_⟩
  · have h1 := h.a.lo _ hm
    have h2 := h.b.ok.low.1
    omega
  · rcases n b hb with h1 | h1
    · exact h.dis b h1 hb2
    · have := h.b.ok.lt hb2
      omega
theorem B2.act {W w w' : World} {Da Db Ta Tb Ka Kb : Nat} {sa sa' sb : DD} {kd : Int} {nm to : ByteArray} {p : Int} {ds : List UInt8} (h : B2 W w Da Db Ta Tb Ka Kb sa sb) (a : AftX w w' W.heap.size Da Ta sa sa') (e : Stp kd nm to p ds sa sa') (hd : ds.length ≤ 1048576) : B2 W w' Da Db (Ta + 3) Tb (Ka + 1) Kb sa' sb :=
  h.chg a.1 a.2.2 a.2.1 (h.a.iv.stp hd e h.a.ok.nD a.1.nD h.a.ok.nms)
theorem B2.fail {W w w' : World} {Da Db Ta Tb Ka Kb : Nat} {sa sb : DD} {n er : Int} (h : B2 W w Da Db Ta Tb Ka Kb sa sb) (k : DOk w' W.heap.size Da (Ta + 1) (faS sa n er)) (f : Fr (fun k => k = Da) w w') : B2 W w' Da Db (Ta + 1) Tb Ka Kb (faS sa n er) sb :=
  h.chg k (f.weak (fun _ hb => hb ▸ .inl rfl)) (fun _ hb => .inl hb) (h.a.iv.set _ _ _ _)
theorem B2.die {W w w' : World} {Da Db Ta Tb Ka Kb : Nat} {sa sb : DD} (h : B2 W w Da Db Ta Tb Ka Kb sa sb) (k : DOk w' W.heap.size Da (Ta + 1) (ddS sa)) (f : Fr (fun k => k = Da) w w') : B2 W w' Da Db (Ta + 1) Tb Ka Kb (ddS sa) sb :=
  h.chg k (f.weak (fun _ hb => hb ▸ .inl rfl)) (fun _ hb => .inl hb) (h.a.iv.set _ _ _ _)
theorem Sm.fsOf {φ : Nat → Nat} {s1 s2 : DD} (h : Sm φ s1 s2) : Go.Proofs.YtaibjeehjhlicaaGreatDoor.fsOf s1.nf = Go.Proofs.YtaibjeehjhlicaaGreatDoor.fsOf s2.nf := by
  unfold Go.Proofs.YtaibjeehjhlicaaGreatDoor.fsOf
  rw [h.names]
  exact List.map_congr_left (fun l _ => by rw [h.nbOf])
theorem Sm.pend {φ : Nat → Nat} {s1 s2 : DD} (h : Sm φ s1 s2) : s1.chs.length + Go.Proofs.YtaibjeehjhlicaaGreatDoor.lsd (Go.Proofs.YtaibjeehjhlicaaGreatDoor.fls s1) = s2.chs.length + Go.Proofs.YtaibjeehjhlicaaGreatDoor.lsd (Go.Proofs.YtaibjeehjhlicaaGreatDoor.fls s2) := by rw [h.clen, h.lsd]
theorem nwS_sm (M L M' L' : Nat) : Sm id (nwS 1099511627776 M L) (nwS 1099511627776 M' L') := ⟨rfl, rfl, rfl, rfl, fun _ => rfl, rfl⟩
theorem nw_own {w : World} {B D T M L : Nat} {k : Nat} (h : DOk w B D T (nwS 1099511627776 M L)) (hk : own D (nwS 1099511627776 M L) k) : k < w.heap.size := h.lt hk
/-- the same act on both -/
theorem Sm.both {φ : Nat → Nat} {sa sb ta tb : DD} {W w : World} {Da Db Ta Tb Ka Kb : Nat} (h : Sm φ sa sb) (b2 : B2 W w Da Db Ta Tb Ka Kb sa sb) (na : ND ta) {kd : Int} {nm to : ByteArray} {p : Int} {ds : List UInt8} (e1 : Eff kd nm to p ds (acS sa) ta) (e2 : Eff kd nm to p ds (acS sb) tb) : ∃ ψ, Sm ψ ta tb :=
  (show Sm φ (acS sa) (acS sb) from h.set _ _ _ _ _ _ _ _).eff (b2.a.iv.set (sa.acts + 1) (sa.unt - 1) sa.flt sa.dead).cw b2.a.ok.nD b2.b.ok.nD na e1 e2
theorem w64i {x : Int} (h : -9223372036854775808 ≤ x ∧ x ≤ 9223372036854775807) : wrap64 x = x := by unfold wrap64; omega
end Go.Proofs.YtaibjeehjhlicaaGreatDoor
namespace Go.Proofs.YtaibjeehjhlicaaGreatDoor
open Go.RowKit Go.Shelf TextNum ModNum
/-- what is appended to may be read as it was, too -/
theorem app_both {w : World} (base : Nat) (t ty e : TypeId) (i : TypeInfo) (z : Value) (size bytes : Nat) (ht : Tryz.prog.underlying t = some (.slice e)) (hi : Tryz.prog.info? e = some i) (hz : i.zero = some z)
    (hsize : i.size = size) (hby : i.bytes = bytes) (hzs : z.cells.size = size) (hsz : 0 < size)
    (v : Value) (n : Nat) (xs : List Value) (hown : w.ownsRow base e size v n xs)
    (a : Addr) (m c : Nat) (news : List Value) (hl : news.length = m * size) (hnews : ∀ j u, news[j]? = some u → w.cell? (a.add j) = some u) (h1 : ∀ u ∈ news, u.oneCell' = true)
    (h63 : n + m ≤ maxLen) (hbytes : (n + m) * bytes ≤ 140737488355328) (hbase : base ≤ w.heap.size) :
    ∃ v' w', (Builtin.append_ #[t, t] ty #[v, .slice (some a) m c]).run Tryz.prog w = .ok v' w' ∧ w'.ownsRow base e size v' (n + m) (xs ++ news) ∧ w.grownBy w' v.ownBlock ∧ w'.ownsRow base e size v n xs ∧ (v'.ownBlock = v.ownBlock ∨ ∀ g, v'.ownBlock = some g → w.heap.size ≤ g) := by
  obtain ⟨v', w', hr, ho, hg, hnn⟩ := run_append_own (P := Tryz.prog) w base t ty e i z size bytes ht hi hz hsize hby hzs hsz v n xs hown a m c news hl hnews h1 h63 hbytes hbase
  refine ⟨v', w', hr, ho, hg, ?_⟩
  subst hsize
  subst hby
  have hsmall : n + m ≤ 9223372036854775807 := by simp only [maxLen] at h63; omega
  rcases hown.2 with ⟨rfl, rfl⟩ | ⟨g, cap, cur, rfl, hbg, hgx, hnc, hcm, hcs, htake⟩
  · have hx : xs = [] := List.eq_nil_of_length_eq_zero (by simpa using hown.1)
    subst hx
    refine ⟨World.ownsRow_nil w' base e i.size, ?_⟩
    by_cases hm : m = 0
    · exact .inl (by rw [hnn.2 ⟨rfl, hm⟩])
    · have hr2 := run_append_nil (P := Tryz.prog) w t ty e i z ht hi hz a m c news hl hnews (by omega) (by omega) (by have hb := hbytes; simp only [Nat.zero_add] at hb; omega)
      rw [hr2] at hr
      injection hr with hr3 hr4
      subst hr3
      refine .inr fun g hg' => ?_
      obtain rfl : w.heap.size = g := Option.some.inj hg'
      exact Nat.le_refl _
  · by_cases hroom : n + m ≤ cap
    · have hfit : n * i.size + news.length ≤ cur.size := by rw [hl, hcs, ← Nat.add_mul]; exact Nat.mul_le_mul_right _ hroom
      have hr2 := run_append_room (P := Tryz.prog) w t ty e i ht hi g n cap cur hgx a m c news hl hnews h1 hroom hfit
      rw [hr2] at hr
      injection hr with hr3 hr4
      subst hr3
      subst hr4
      refine ⟨⟨hown.1, .inr ⟨g, cap, _, rfl, hbg, setRow_heap w g cur _ e _ hgx, hnc, hcm, ?_, ?_⟩⟩, .inl rfl⟩
      · simp only [List.size_toArray, List.length_append, List.length_take, List.length_drop, Array.length_toList]
        omega
      · rw [htake, List.append_assoc, ← hown.1]
        exact List.take_left
    · have holds : ∀ j u, xs[j]? = some u → w.cell? ((⟨g, 0, none⟩ : Addr).add j) = some u := hown.cells (g := g) rfl
      have hr2 := run_append_grow (P := Tryz.prog) w t ty e i z ht hi hz ⟨g, 0, none⟩ n cap xs hown.1 holds a m c news hl hnews (by omega) (by omega) (growslice_fits (by omega) hbytes)
      rw [hr2] at hr
      injection hr with hr3 hr4
      subst hr3
      subst hr4
      refine ⟨World.ownsRow.kept hown (row := none) ⟨rfl, rfl, rfl, by simp, fun k hk _ => heap_alloc_old w.drew _ hk⟩ (.inr (by simp [Value.ownBlock])), .inr fun g' hg' => ?_⟩
      obtain rfl : w.heap.size = g' := Option.some.inj hg'
      exact Nat.le_refl _
theorem Ow.put {w : World} {B g n c : Nat} {l : List UInt8} (h : Ow w B (.slice (some ⟨g, 0, none⟩) n c) l) (hn : n = l.length) (j : Nat) (y : UInt8) : Ow (w.setCell ⟨g, j, none⟩ (vb y)) B (.slice (some ⟨g, 0, none⟩) n c) (l.set j y) ∧ w.grownBy (w.setCell ⟨g, j, none⟩ (vb y)) (some g) := by
  subst hn
  have := World.ownsRow.stored h j (vb y)
  refine ⟨?_, this.2⟩
  unfold Ow
  rw [List.length_set]
  have e : cb (l.set j y) = (cb l).set j (vb y) := by simp [cb, List.map_set, vb]
  rw [e]
  exact this.1
theorem wpList_appB {w : World} {N q : Nat} {ops : Array Oper} {rest : List Oper} {o : Oper} {a : Act} {Q : Exit → Act → World → Prop} (hgd : o.guard = none) (x y : Operand)
    (ho : o.op = .call { callee := .builtin .append, args := #[x, y], argTypes := #[41, 41] }) (ax : Option Addr) (cx : Nat) (xs : List UInt8) (k : UInt8) (hx : a.eval x = .slice ax q cx) (hy : a.eval y = .slice (some ⟨w.heap.size, 0, none⟩) 1 1)
    (hR : w.ownsRow N 5 1 (.slice ax q cx) q (cb xs)) (hNw : N ≤ w.heap.size) (hql : q ≤ 1099511627776)
    (K : ∀ ax2 cx2 w', w'.ownsRow N 5 1 (.slice ax2 (q + 1) cx2) (q + 1) (cb (xs ++ [k])) → w'.ownsRow N 5 1 (.slice ax q cx) q (cb xs) → w.grownBy w' (Value.slice ax q cx).ownBlock → ((Value.slice ax2 (q + 1) cx2).ownBlock = (Value.slice ax q cx).ownBlock ∨ ∀ g, (Value.slice ax2 (q + 1) cx2).ownBlock = some g → w.heap.size ≤ g) → wpList Tryz.prog ops Q rest (a.put o.dst (.slice ax2 (q + 1) cx2)) w') :
    wpList Tryz.prog ops Q (o :: rest) a (w.alloc (.cells #[vb k] 5)) := by
  obtain ⟨i0, hi0, hz0, hz1, hz2⟩ := info_parts Tryz.infoU8
  have HUx := (Up.refl w).alloc (.cells #[vb k] 5)
  have hnu := ow_up hR HUx
  obtain ⟨v', w', hr, h2, h3, h4, h5⟩ := app_both (w := w.alloc (.cells #[vb k] 5)) N 41 o.type 5 i0 (.int .u8 0) 1 1 Tryz.underlying41 hi0 hz0 hz1 hz2 rfl (by omega) (.slice ax q cx) q (cb xs) hnu ⟨w.heap.size, 0, none⟩ 1 1 [vb k] rfl
    (fun j u hu => by
      rw [Addr.add_lit]
      exact At.cell (at_new w 5 [vb k]) (i := 0 + j) (by rw [Nat.zero_add]; exact hu))
    (fun u hu => by
      simp only [List.mem_singleton] at hu
      subst hu
      rfl) (by simp only [maxLen]; omega) (by omega) (by rw [alloc_size]; omega)
  obtain ⟨a4, c4, rfl⟩ := row_len h2
  refine wpList_plain hgd fun K2 hK => ?_
  unfold Oper.wp execOp
  simp only [ho, resolve, invoke, builtin, Sem.run_bind, Sem.run_pure, Result.andThen_ok, List.map_toArray, List.map_cons, List.map_nil, hx, hy, hr]
  exact hK _ _ (K a4 c4 w' (by rw [cb_append]; exact h2) h4 (up_grown HUx h3) (h5.imp id (fun h g hg => Nat.le_trans (by rw [alloc_size]; omega) (h g hg))))
/-- files whose bytes lie apart -/
def PWf (fs : List GF) : Prop := fs.Pairwise fun g h => ∀ k, g.v.ownBlock = some k → h.v.ownBlock ≠ some k
set_option maxRecDepth 100000 in
set_option maxHeartbeats 4000000 in
theorem Files_own {B D T : Nat} {s : DD} (w : World) (h : DOk w B D T s) (hd : s.dead = false) (hlen : s.nf.length ≤ 1099511627776) :
    Calls Tryz.prog 15 #[pv D] w fun e w' => ∃ a fs c, e = .returned (.slice a fs.length c) ∧ FsO w' w.heap.size a fs c ∧ PWf fs ∧ Up w w' ∧ (fs.map fun g => (g.nm.data.toList, g.ds)) = fsOf s.nf := by
  have HI := Hid.of h
  have HLi := Hid.of (List_gen ⟨#[]⟩ w h hd)
  clear h
  go_enter Tryz.func15, Tryz.ntmps15
  go_wp2_with fail
  refine HLi.out.mono ?_
  rintro e w7 ⟨v7, rfl, q7, u7⟩
  replace q7 : SlS w7 v7 (srt (s.nf.map (·.1))) := by rw [← lsN_all]; exact q7
  obtain ⟨Ls, hLs⟩ : ∃ Ls, Ls = srt (s.nf.map (·.1)) := ⟨_, rfl⟩
  have HFs := Hid.of (show fsOf s.nf = Ls.map fun l => (l, nbOf s.nf l) by rw [hLs]; rfl)
  have HLm := Hid.of (show ∀ l, l ∈ Ls → l ∈ s.nf.map (·.1) by subst hLs; exact fun l hl => srt_mem.1 hl)
  have HLl := Hid.of (show Ls.length = s.nf.length by rw [hLs, srt_len, List.length_map])
  rw [← hLs] at q7
  have HU7 := Hid.of u7
  clear u7 HLi hLs
  obtain ⟨al, cl, rfl, hcl, hcells⟩ := q7
  have HCl := Hid.of hcells
  obtain ⟨n, hn⟩ : ∃ n, Ls.length = n := ⟨_, rfl⟩
  have HN := Hid.of hn
  rw [hn] at hcl ⊢
  have hclz : (n : Int) ≤ (cl : Int) := by omega
  have hnl : n ≤ 1099511627776 := by have := HLl.out; omega
  clear hcells hn
  dsimp only
  go_wp2
  go_loopw [3, 5, 9] (fun v3 _ v9 wq => ∃ i : Nat, v9 = .int .i64 (i : Int) ∧ i ≤ n ∧ ∃ a3 c3, v3 = .slice a3 i c3 ∧ Hid (∃ fs, fs.length = i ∧ FsO wq w7.heap.size a3 fs c3 ∧ PWf fs ∧ Up w7 wq ∧ (fs.map fun g => (g.nm.data.toList, g.ds)) = (Ls.take i).map fun l => (l, nbOf s.nf l))) (fun _ _ v9 _ => n - (intOf v9).toNat)
  case atStart => exact ⟨0, rfl, by omega, none, 0, rfl, Hid.of ⟨[], rfl, ⟨World.ownsRow_nil _ _ _ _, (fun g hg => by cases hg)⟩, List.Pairwise.nil, Up.refl _, rfl⟩⟩
  case round =>
    obtain ⟨i, rfl, hi, a3, c3, rfl, hQ⟩ := hrel
    obtain ⟨fs, hfl, hO, hW, hU, hE⟩ := hQ.out
    have HW := Hid.of hW
    clear hW
    have HO := Hid.of hO
    have HU := Hid.of hU
    have HE := Hid.of hE
    have HFl := Hid.of hfl
    clear hQ hO hU hE hfl
    by_cases hil : i < n
    · have hilz : (i : Int) < (n : Int) := by omega
      have hill : i < Ls.length := by rw [HN.out]; exact hil
      rcases HCl.out with e0 | ⟨bl, ol, rfl, _, hcell⟩
      · exfalso; rw [e0] at hill; simp at hill
      have k1 := HU.out.cell (hcell i hill)
      obtain ⟨x, hx⟩ : ∃ x, Ls[i] = x := ⟨_, rfl⟩
      rw [hx] at k1
      obtain ⟨p, hp, hpx⟩ := List.mem_map.1 (HLm.out Ls[i] (List.getElem_mem hill))
      rw [hx] at hpx
      have HEs := Hid.of (show ∀ v, ((fs ++ [(⟨⟨x.toArray⟩, v, p.2.nb⟩ : GF)]).map fun g => (g.nm.data.toList, g.ds)) = (Ls.take (i + 1)).map fun l => (l, nbOf s.nf l) from fun v => by
        rw [List.take_succ_eq_append_getElem hill, List.map_append, List.map_append, HE.out, hx, ← hpx]
        show _ ++ [(p.1, p.2.nb)] = _ ++ [(p.1, nbOf s.nf p.1)]
        rw [nbOf_mem HI.out.nd hp])
      have hIw := HI.out.up (HU7.out.trans HU.out)
      have c3' := hIw.disk.cell (i := 3) rfl
      obtain ⟨v, ps, hrun, hv⟩ := World.ownsMap.lookup hIw.mnow (Maps.string_keyed Tryz.underlying9) Tryz.underlying81 (Tryz.zeroValue88 wr) (zd := .lit (.bool false)) (zp := []) rfl (keyS ⟨x.toArray⟩ (by rw [Go.Lib.size_eq]; show x.length ≤ 255; rw [← hpx]; exact nm_len (HI.out.nms p hp)))
      have e5 := hIw.isn.val p hp
      rw [hpx] at e5
      have e6 : ∀ z, s.dm.atKey (.string (⟨x.toArray⟩ : ByteArray).data.toList) z = fd p.2.b := e5
      rw [e6] at hv
      obtain rfl := rp_inv hv
      have cf := (hIw.fok p.2 (mem_fls_nf hp)).file.cell (i := 0) rfl
      have HCn := Hid.of (Clone_walk p.2.vn p.2.nb wr (Ow.sb (hIw.fok p.2 (mem_fls_nf hp)).now) (by have := hIw.sz p.2 (mem_fls_nf hp); omega))
      clear hv hcell hx hIw e5 e6
      go_wp2_with fail
      refine HCn.out.mono ?_
      rintro e w8 ⟨v8, rfl, o8, u8⟩
      obtain ⟨a8, c8, rfl, _⟩ := id (Ow.sb o8)
      have HO8 := Hid.of (show Ow w8 w7.heap.size (.slice a8 p.2.nb.length c8) p.2.nb from ow_base o8 HU.out.size)
      have HF8 := Hid.of (HO.out.up u8)
      have HW8 := Hid.of (show PWf (fs ++ [(⟨⟨x.toArray⟩, .slice a8 p.2.nb.length c8, p.2.nb⟩ : GF)]) from List.pairwise_append.2 ⟨HW.out, List.pairwise_singleton _ _, fun g hg h hh k hk e => by
        obtain rfl := List.mem_singleton.1 hh
        have h1 := (World.ownsRow.lt (HO.out.dat g hg) k hk).2
        have h2 := (World.ownsRow.lt o8 k e).1
        omega⟩)
      have HU8 := Hid.of (HU.out.trans u8)
      clear o8 u8 HCn hrun c3' cf k1
      dsimp only
      go_wp2_with (with_reducible show wpList _ _ _ ({ dst := _, op := Op.call { callee := Callee.builtin Builtin.append, args := _, argTypes := _ }, type := _, pos := _, after := _, guard := _ } :: _) _ _; refine Shut.out ?_)
      show wpList _ _ _ _ _ _
      refine wpList_appFile (w := w8) (N := w7.heap.size) rfl _ _ rfl a3 c3 fs ⟨⟨x.toArray⟩, .slice a8 p.2.nb.length c8, p.2.nb⟩ HFl.out rfl rfl HF8.out HO8.out HU8.out.size (by omega) ?_
      intro ax2 cx2 w9 f9 u9 _
      have HF9 := Hid.of f9
      have HU9 := Hid.of (u9 w7 HU8.out (Nat.le_refl _))
      clear f9 u9
      simp only [Act.put, List.setIfInBounds_toArray, List.set_cons_zero, List.set_cons_succ]
      go_wp2
      go_roundw
      all_goals first
        | exact ⟨i + 1, by go_num, by omega, ax2, cx2, rfl, Hid.of ⟨_, by rw [List.length_append, HFl.out]; rfl, HF9.out, HW8.out, HU9.out, HEs.out _⟩⟩
        | (simp [intOf]; omega)
    · have hilz : ¬ (i : Int) < (n : Int) := by omega
      rw [show Ls.take i = Ls from List.take_of_length_le (by have := HN.out; omega), ← HFs.out] at HE
      go_wp2
      go_ret
      exact ⟨a3, fs, c3, by rw [HFl.out]; rfl, HO.out.low HU7.out.size, HW.out, HU7.out.trans HU.out, HE.out⟩
theorem ci_append (a b : List Int) : ci (a ++ b) = ci a ++ ci b := by simp [ci]
set_option maxRecDepth 100000 in
set_option maxHeartbeats 1000000 in
theorem copiedInts_walk (v : Value) (cs : List Int) (w : World) (hS : SI w v cs) (hcl : cs.length ≤ 17592186044416) :
    Calls Tryz.prog 31 #[v] w fun e w' => ∃ v', e = .returned v' ∧ w'.ownsRow w.heap.size 3 1 v' cs.length (ci cs) ∧ Up w w' := by
  obtain ⟨i0, hi, hz0, hz1, hz2⟩ := info_parts Tryz.infoInt
  obtain ⟨a, c, rfl, h1, h2, h3, h4⟩ := hS
  cases a with
  | none =>
    obtain ⟨rfl, rfl⟩ := h3 rfl
    clear h4 h3 h2 h1
    go_enter Tryz.func31, Tryz.ntmps31
    go_wp2
    go_ret
    exact ⟨_, rfl, World.ownsRow_nil _ _ _ _, Up.refl _⟩
  | some ad =>
    have HS := Hid.of (h4 ad rfl).2
    clear h4 h3
    go_enter Tryz.func31, Tryz.ntmps31
    go_wp2_with (with_reducible show wpList _ _ _ ({ dst := _, op := Op.call { callee := Callee.builtin Builtin.append, args := _, argTypes := _ }, type := _, pos := _, after := _, guard := _ } :: _) _ _; refine Shut.out ?_)
    show wpList _ _ _ _ _ _
    refine wpList_append_frs rfl _ _ 23 rfl w.heap.size 3 i0 (.int .i64 0) 8 Tryz.underlying23 hi hz0 hz1 hz2 rfl _ 0 [] rfl (World.ownsRow_nil _ _ _ _) ad cs.length c (ci cs) rfl (by rw [ci_length]; omega) HS.out (ci_one cs) (by simp only [maxLen]; omega) (by omega) (Nat.le_refl _) ?_
    intro v1 w1 o1 g1 f1
    have HO1 := Hid.of (show w1.ownsRow w.heap.size 3 1 v1 cs.length (ci cs) by simpa using o1)
    have HU1 := Hid.of (up_grownBy (Up.refl w) g1 (fun g hg => by cases hg))
    clear o1 g1 f1
    simp only [Act.put, List.setIfInBounds_toArray, List.set_cons_zero, List.set_cons_succ]
    go_wp2
    go_ret
    exact ⟨_, rfl, HO1.out, HU1.out⟩
set_option maxRecDepth 100000 in
set_option maxHeartbeats 2000000 in
theorem spare_walk (v : Value) (ds : List UInt8) (w : World) (hd : Sb w v ds) (hl : ds.length ≤ 140737488355328) (hl2 : ds.length ≤ 1099511627000) :
    Calls Tryz.prog 33 #[v] w fun e w' => ∃ v', e = .returned v' ∧ Ow w' w.heap.size v' (ds ++ List.replicate 300 9) ∧ Up w w' := by
  have HC := Hid.of (copied_walk v ds w hd hl)
  obtain ⟨a, c, rfl, _⟩ := hd
  go_enter Tryz.func33, Tryz.ntmps33
  go_wp2_with fail
  refine HC.out.mono ?_
  rintro e w2 ⟨v2, rfl, o2, u2⟩
  obtain ⟨a2, c2, rfl⟩ := row_len o2
  have HO2 := Hid.of o2
  have HU2 := Hid.of u2
  clear o2 u2 HC
  dsimp only
  go_wp2
  go_loopw [3, 4] (fun v3 v4 wr => ∃ i : Nat, v4 = .int .i64 (i : Int) ∧ i ≤ 300 ∧ ∃ a3 c3, v3 = .slice a3 (ds.length + i) c3 ∧ Hid (wr.ownsRow w.heap.size 5 1 (.slice a3 (ds.length + i) c3) (ds.length + i) (cb (ds ++ List.replicate i 9)) ∧ Up w wr)) (fun _ v4 _ => 300 - (intOf v4).toNat)
  case atStart => exact ⟨0, rfl, by omega, a2, c2, rfl, Hid.of ⟨by simpa using HO2.out, HU2.out⟩⟩
  case round =>
    obtain ⟨i, rfl, hi, a3, c3, rfl, hR⟩ := hrel
    have HR := Hid.of hR.out
    clear hR
    by_cases hlt : i < 300
    · have hz : (i : Int) < 300 := by omega
      go_wp2_with (with_reducible show wpList _ _ _ ({ dst := _, op := Op.call { callee := Callee.builtin Builtin.append, args := _, argTypes := _ }, type := _, pos := _, after := _, guard := _ } :: _) _ _; refine Shut.out ?_)
      show wpList _ _ _ _ _ _
      refine wpList_appB (N := w.heap.size) (q := ds.length + i) rfl _ _ rfl a3 c3 (ds ++ List.replicate i 9) 9 rfl rfl HR.out.1 HR.out.2.size (by omega) ?_
      intro ax2 cx2 w4 o4 _ g4 _
      have HR4 := Hid.of (show w4.ownsRow w.heap.size 5 1 (.slice ax2 (ds.length + (i + 1)) cx2) (ds.length + (i + 1)) (cb (ds ++ List.replicate (i + 1) 9)) ∧ Up w w4 from ⟨by
        have e : ds ++ List.replicate (i + 1) 9 = ds ++ List.replicate i 9 ++ [9] := by rw [List.replicate_succ', List.append_assoc]
        rw [e]
        exact o4, up_grownBy HR.out.2 g4 (fun k hk => (World.ownsRow.lt HR.out.1 k hk).1)⟩)
      clear o4 g4
      simp only [Act.put, List.setIfInBounds_toArray, List.set_cons_zero, List.set_cons_succ]
      go_wp2
      go_roundw
      all_goals first
        | exact ⟨i + 1, by go_num, by omega, ax2, cx2, rfl, Hid.of HR4.out⟩
        | (simp [intOf]; omega)
    · have hie : i = 300 := by omega
      subst hie
      go_wp2
      go_ret
      exact ⟨_, rfl, by unfold Ow; rw [List.length_append, List.length_replicate]; exact HR.out.1, HR.out.2⟩
end Go.Proofs.YtaibjeehjhlicaaGreatDoor
namespace Go.Proofs.YtaibjeehjhlicaaGreatDoor
open Go.RowKit Go.Shelf TextNum ModNum
set_option maxRecDepth 100000 in
set_option maxHeartbeats 2000000 in
theorem spared_walk (v : Value) (w : World) (hS : Sb w v ([1, 2, 3] ++ List.replicate 300 9)) :
    Calls Tryz.prog 34 #[v, .string ⟨#[1, 2, 3]⟩] w fun e w' => e = .returned (.bool true) ∧ w' = w := by
  have HS := Hid.of hS
  obtain ⟨a, c, rfl, h1, h2, h3, h4⟩ := hS
  have hl : ([1, 2, 3] ++ List.replicate 300 9 : List UInt8).length = 303 := by simp
  rw [hl] at h1 HS ⊢
  cases a with
  | none => have := (h3 rfl).1; cases this
  | some ad =>
    obtain ⟨b, off, sp⟩ := ad
    obtain ⟨hsp, hcell⟩ := h4 _ rfl
    obtain rfl : sp = none := hsp (by simp)
    have HCe := Hid.of (show ∀ i, 3 ≤ i → i < 303 → w.cell? ⟨b, off + i, none⟩ = some (.int .u8 9) from fun i hi hi2 => by
      have h5 := hcell i (.int .u8 9) (by
        rw [cb_append, List.getElem?_append_right (by simpa [cb_length] using hi)]
        have e : (cb (List.replicate 300 9))[i - 3]? = some (.int .u8 9) := by
          rw [cb_get (by rw [List.length_replicate]; omega), List.getElem_replicate]
          rfl
        simpa [cb_length] using e)
      rw [Addr.add_lit] at h5
      exact h5)
    have HT := Hid.of (show Sb w (.slice (some ⟨b, off, none⟩) 3 c) [1, 2, 3] from by
      have h6 := Sb.take (ds := [1, 2, 3] ++ List.replicate 300 9) (by rw [hl]; exact HS.out) 3 (by rw [hl]; omega)
      exact h6)
    have hcv : (convert 41 9 (.slice (some ⟨b, off, none⟩) 3 c)).run Tryz.prog w = .ok (.string ⟨#[1, 2, 3]⟩) w := conv_sb2 HT.out
    have hcz : (303 : Int) ≤ (c : Int) := by omega
    have hc3 : (3 : Int) ≤ (c : Int) := by omega
    clear hcell h4 h3 h2 hl
    go_enter Tryz.func34, Tryz.ntmps34
    go_wp2
    go_loopw [5] (fun v5 wr => ∃ i : Nat, v5 = .int .i64 (i : Int) ∧ 3 ≤ i ∧ i ≤ 303 ∧ Hid (wr = w)) (fun v5 _ => 303 - (intOf v5).toNat)
    case atStart => exact ⟨3, rfl, by omega, by omega, Hid.of rfl⟩
    case round =>
      obtain ⟨i, rfl, hi1, hi2, hR⟩ := hrel
      obtain rfl := hR.out
      clear hR
      by_cases hlt : i < 303
      · have hz : (i : Int) < 303 := by omega
        have k1 := HCe.out i hi1 hlt
        go_wp2
        go_roundw
        all_goals first
          | exact ⟨i + 1, by go_num, by omega, by omega, Hid.of trivial⟩
          | (simp [intOf]; omega)
      · have hie : i = 303 := by omega
        subst hie
        go_wp2
        go_ret
        exact ⟨rfl, rfl⟩
/-- a disk of one's own -/
structure BK (W w : World) (D T : Nat) (s : DD) : Prop where
  ok : DOk w W.heap.size D T s
  up : Up W w
  lo : ∀ k, own D s k → W.heap.size ≤ k
theorem BK.upTo {W w w' : World} {D T : Nat} {s : DD} (h : BK W w D T s) (u : Up w w') : BK W w' D T s := ⟨h.ok.up u, h.up.trans u, h.lo⟩
theorem up_fr {W w w' : World} {S : Nat → Prop} (h : Up W w) (lo : ∀ k, S k → W.heap.size ≤ k) (f : Fr S w w') : Up W w' :=
  ⟨f.os.trans h.os, f.tape.trans h.tape, f.output.trans h.output, Nat.le_trans h.size f.size, fun j hj => (f.block j (Nat.lt_of_lt_of_le hj h.size) (fun ho => by have := lo j ho; omega)).trans (h.block j hj)⟩
theorem BK.fr {W w w' : World} {D T : Nat} {s : DD} {S : Nat → Prop} (h : BK W w D T s) (f : Fr S w w') (hS : ∀ k, own D s k → ¬ S k) (hl : ∀ k, S k → W.heap.size ≤ k) : BK W w' D T s :=
  ⟨h.ok.fr f hS (fun hm => by
    have h1 := hl _ hm
    have h2 := h.ok.low.1
    omega), up_fr h.up hl f, h.lo⟩
theorem BK.chg {W w w' : World} {D T T' : Nat} {s s' : DD} (h : BK W w D T s) (k : DOk w' W.heap.size D T' s') (f : Fr (own D s) w w') (n : Nw w.heap.size D s s') : BK W w' D T' s' :=
  ⟨k, up_disk h.up h.lo f, lo_disk h.up h.lo n⟩
/-- three disks beside one another -/
structure T3 (W w : World) (D A E Td Ta Te : Nat) (sd sa se : DD) : Prop where
  d : BK W w D Td sd
  a : BK W w A Ta sa
  e : BK W w E Te se
  da : ∀ k, own D sd k → ¬ own A sa k
  de : ∀ k, own D sd k → ¬ own E se k
  ae : ∀ k, own A sa k → ¬ own E se k
theorem T3.upTo {W w w' : World} {D A E Td Ta Te : Nat} {sd sa se : DD} (h : T3 W w D A E Td Ta Te sd sa se) (u : Up w w') : T3 W w' D A E Td Ta Te sd sa se := ⟨h.d.upTo u, h.a.upTo u, h.e.upTo u, h.da, h.de, h.ae⟩
theorem T3.fr {W w w' : World} {D A E Td Ta Te : Nat} {sd sa se : DD} {S : Nat → Prop} (h : T3 W w D A E Td Ta Te sd sa se) (f : Fr S w w') (h1 : ∀ k, S k → ¬ own D sd k ∧ ¬ own A sa k ∧ ¬ own E se k ∧ W.heap.size ≤ k) : T3 W w' D A E Td Ta Te sd sa se :=
  ⟨h.d.fr f (fun k hk hs => (h1 k hs).1 hk) (fun k hs => (h1 k hs).2.2.2), h.a.fr f (fun k hk hs => (h1 k hs).2.1 hk) (fun k hs => (h1 k hs).2.2.2), h.e.fr f (fun k hk hs => (h1 k hs).2.2.1 hk) (fun k hs => (h1 k hs).2.2.2), h.da, h.de, h.ae⟩
/-- something is done to the third -/
theorem T3.chg {W w w' : World} {D A E Td Ta Te Te' : Nat} {sd sa se se' : DD} (h : T3 W w D A E Td Ta Te sd sa se) (k : DOk w' W.heap.size E Te' se') (f : Fr (own E se) w w') (n : Nw w.heap.size E se se') : T3 W w' D A E Td Ta Te' sd sa se' :=
  ⟨h.d.fr f (fun b hb => h.de b hb) h.e.lo, h.a.fr f (fun b hb => h.ae b hb) h.e.lo, h.e.chg k f n, h.da, fun b hb hb2 => (n b hb2).elim (h.de b hb) (fun q => by have := h.d.ok.lt hb; omega), fun b hb hb2 => (n b hb2).elim (h.ae b hb) (fun q => by have := h.a.ok.lt hb; omega)⟩
/-- the first crashes once more -/
theorem T3.die {W w w' : World} {D A E Td Ta Te : Nat} {sd sa se : DD} (h : T3 W w D A E Td Ta Te sd sa se) (k : DOk w' W.heap.size D (Td + 1) (ddS sd)) (f : Fr (fun k => k = D) w w') : T3 W w' D A E (Td + 1) Ta Te (ddS sd) sa se :=
  ⟨h.d.chg k (f.weak (fun _ hb => hb ▸ .inl rfl)) (fun _ hb => .inl hb), h.a.fr f (fun b hb e => h.da b (e ▸ .inl rfl) hb) (fun b e => h.d.lo b (e ▸ .inl rfl)), h.e.fr f (fun b hb e => h.de b (e ▸ .inl rfl) hb) (fun b e => h.d.lo b (e ▸ .inl rfl)), h.da, h.de, h.ae⟩
theorem FOk.base {w : World} {B B' : Nat} {f : FL} (h : FOk w B f) (hb : B' ≤ B) (hl : f.lo = []) : FOk w B' f :=
  ⟨Nat.le_trans hb h.low, h.file, ow_base h.now hb, ow_base h.last hb, h.apart, ow_base h.loose hb, fun l k => by rw [hl] at k; cases k⟩
theorem DOk.base {w : World} {B B' D T : Nat} {s : DD} (h : DOk w B D T s) (hb : B' ≤ B) (hm : 0 < B') (hl : ∀ f ∈ fls s, f.lo = []) : DOk w B' D T s :=
  ⟨h.ml, ⟨hm, by have := h.low; omega, by have := h.low; omega, by have := h.low; omega⟩, Nat.le_trans hb h.hB, h.disk, h.mnow, h.isn, h.nd, h.nms, h.mlas, h.isl, h.neq, ow_base h.rowC hb, ow_base h.rowL hb, h.chk, h.lap, fun f hf => (h.fok f hf).base hb (hl f hf), h.fnd, h.apart, h.sz, h.num⟩
theorem Laid.lo0 {W w : World} {D room : Nat} {fs : List GF} {s : DD} (h : Laid W w D room fs s) : ∀ f ∈ fls s, f.lo = [] := fun f hf => by
  unfold fls at hf
  rw [h.st.2.2.2.2.1, List.append_nil] at hf
  obtain ⟨p, hp, rfl⟩ := List.mem_map.1 hf
  exact (h.sy p hp).2
theorem Laid.bk {W w3 w : World} {D room : Nat} {fs : List GF} {s : DD} (h : Laid w3 w D room fs s) (u : Up W w3) (hm : 0 < W.heap.size) : BK W w D 0 s :=
  ⟨h.ok.base u.size hm h.lo0, u.trans h.up, fun k hk => Nat.le_trans u.size (h.lo k hk)⟩
theorem Laid.fs {W w : World} {D room : Nat} {fs : List GF} {s : DD} (h : Laid W w D room fs s) : fsOf s.nf = srF (fs.map pr) := by
  rw [fsOf_srF]
  exact congrArg srF h.ld
theorem Laid.pend {W w : World} {D room : Nat} {fs : List GF} {s : DD} (h : Laid W w D room fs s) : s.chs.length + lsd (fls s) = 0 := by
  rw [h.st.2.2.2.1, lsd_zero h.lo0]
  rfl
/-- a byte of a told file is written over -/
def mkB (i : Nat) : UInt8 := UInt8.ofNat (i % 200 + 1)
theorem mkB_val (i : Nat) : ((mkB i).toNat : Int) = ((i % 200 + 1 : Nat) : Int) := by
  unfold mkB
  rw [UInt8.toNat_ofNat', Nat.mod_eq_of_lt (by omega)]
theorem pw_at {fs : List GF} (h : PWf fs) {i j : Nat} (hi : i < fs.length) (hj : j < fs.length) (hne : i ≠ j) : ∀ k, fs[i].v.ownBlock = some k → fs[j].v.ownBlock ≠ some k := pw_get h hi hj hne
theorem FsO.row_ne {w : World} {N : Nat} {a : Option Addr} {fs : List GF} {c : Nat} (h : FsO w N a fs c) {g : GF} (hg : g ∈ fs) : ∀ k, g.v.ownBlock = some k → (Value.slice a fs.length c).ownBlock ≠ some k := fun k hk e => by
  rcases own_off' (h.dat g hg) h.row (by decide) with q | q
  · rw [q] at hk; cases hk
  · exact q (by rw [hk, e])
theorem set_same {α : Type} {l : List α} {i : Nat} {v : α} (h : l[i]? = some v) : l.set i v = l := by
  apply List.ext_getElem?
  intro j
  rw [List.getElem?_set]
  split
  · rename_i e
    subst e
    rw [h]
    split
    · rfl
    · rename_i q
      rw [List.getElem?_eq_none (by omega)] at h
      cases h
  · rfl
theorem FsO.setD {w : World} {N g n2 c2 j : Nat} {a : Option Addr} {fs : List GF} {c : Nat} {m : UInt8} (h : FsO w N a fs c) (hp : PWf fs) {i : Nat} (hi : i < fs.length) (hv : fs[i].v = .slice (some ⟨g, 0, none⟩) n2 c2) :
    FsO (w.setCell ⟨g, j, none⟩ (vb m)) N a (fs.set i ⟨fs[i].nm, fs[i].v, fs[i].ds.set j m⟩) c ∧ PWf (fs.set i ⟨fs[i].nm, fs[i].v, fs[i].ds.set j m⟩) ∧ w.grownBy (w.setCell ⟨g, j, none⟩ (vb m)) (some g) := by
  have hd := h.dat _ (List.getElem_mem hi)
  obtain ⟨a', c', e'⟩ := row_len hd
  have hn : n2 = fs[i].ds.length := by
    rw [e'] at hv
    injection hv with _ q _
    exact q.symm
  rw [hv] at hd
  obtain ⟨p1, p2⟩ := Ow.put hd hn j m
  refine ⟨⟨?_, fun q hq => ?_⟩, ?_, p2⟩
  · have hr : (w.setCell ⟨g, j, none⟩ (vb m)).ownsRow N 49 2 (.slice a fs.length c) fs.length (fcs fs) := World.ownsRow.kept h.row p2 (.inr (fun e => (h.row_ne (List.getElem_mem hi)) g (by rw [hv]; rfl) e))
    have e1 : fcs (fs.set i ⟨fs[i].nm, fs[i].v, fs[i].ds.set j m⟩) = fcs fs := by
      rw [fcs_set fs i fs[i].v (fs[i].ds.set j m) hi]
      exact set_same (fcs_get fs hi).2
    rw [List.length_set, e1]
    exact hr
  · obtain ⟨k, hk, rfl⟩ := List.mem_iff_getElem.1 hq
    rw [List.length_set] at hk
    rw [List.getElem_set]
    split
    · rename_i e
      subst e
      show Ow _ N fs[i].v (fs[i].ds.set j m)
      rw [hv]
      exact p1
    · rename_i e
      exact World.ownsRow.kept (h.dat _ (List.getElem_mem hk)) p2 (.inr (fun e2 => pw_at hp hk hi (fun q => e q.symm) g e2 (by rw [hv]; rfl)))
  · refine List.pairwise_iff_getElem.2 (fun x y hx hy hxy k hk hk2 => ?_)
    rw [List.length_set] at hx hy
    have hfv : ∀ z (hz : z < fs.length) (hz' : z < (fs.set i ⟨fs[i].nm, fs[i].v, fs[i].ds.set j m⟩).length), (fs.set i ⟨fs[i].nm, fs[i].v, fs[i].ds.set j m⟩)[z].v = fs[z].v := fun z hz hz' => by
      rw [List.getElem_set]
      split
      · rename_i e; subst e; rfl
      · rfl
    rw [hfv x hx] at hk
    rw [hfv y hy] at hk2
    exact pw_at hp hx hy (Nat.ne_of_lt hxy) k hk hk2
theorem fcs_setN : ∀ (fs : List GF) (i : Nat) (nm : ByteArray) (hi : i < fs.length), fcs (fs.set i ⟨nm, fs[i].v, fs[i].ds⟩) = (fcs fs).set (i * 2) (.string nm)
  | g :: r, 0, nm, _ => rfl
  | g :: r, i + 1, nm, hi => by
    have hi' : i < r.length := by simpa using hi
    have ih := fcs_setN r i nm hi'
    have e : fcs (g :: r) = .string g.nm :: g.v :: fcs r := rfl
    rw [e, show (i + 1) * 2 = i * 2 + 2 by omega]
    show .string g.nm :: g.v :: fcs (r.set i ⟨nm, r[i].v, r[i].ds⟩) = .string g.nm :: g.v :: (fcs r).set (i * 2) (.string nm)
    rw [ih]
theorem FsO.setN {w : World} {N ga c : Nat} {fs : List GF} {nm : ByteArray} (h : FsO w N (some ⟨ga, 0, none⟩) fs c) (hp : PWf fs) {i : Nat} (hi : i < fs.length) :
    FsO (w.setCell ⟨ga, i * 2, none⟩ (.string nm)) N (some ⟨ga, 0, none⟩) (fs.set i ⟨nm, fs[i].v, fs[i].ds⟩) c ∧ PWf (fs.set i ⟨nm, fs[i].v, fs[i].ds⟩) ∧ w.grownBy (w.setCell ⟨ga, i * 2, none⟩ (.string nm)) (some ga) := by
  obtain ⟨p1, p2⟩ := World.ownsRow.stored h.row (i * 2) (.string nm)
  have hfv : ∀ z (hz : z < fs.length) (hz' : z < (fs.set i ⟨nm, fs[i].v, fs[i].ds⟩).length), (fs.set i ⟨nm, fs[i].v, fs[i].ds⟩)[z].v = fs[z].v ∧ (fs.set i ⟨nm, fs[i].v, fs[i].ds⟩)[z].ds = fs[z].ds := fun z hz hz' => by
    rw [List.getElem_set]
    split
    · rename_i e; subst e; exact ⟨rfl, rfl⟩
    · exact ⟨rfl, rfl⟩
  refine ⟨⟨?_, fun q hq => ?_⟩, ?_, p2⟩
  · rw [List.length_set, fcs_setN fs i nm hi]
    exact p1
  · obtain ⟨k, hk, rfl⟩ := List.mem_iff_getElem.1 hq
    have hk' := hk
    rw [List.length_set] at hk'
    rw [(hfv k hk' hk).1, (hfv k hk' hk).2]
    exact World.ownsRow.kept (h.dat _ (List.getElem_mem hk')) p2 (.inr (fun e => h.row_ne (List.getElem_mem hk') ga e rfl))
  · refine List.pairwise_iff_getElem.2 (fun x y hx hy hxy k hk hk2 => ?_)
    have hx' := hx
    have hy' := hy
    rw [List.length_set] at hx' hy'
    rw [(hfv x hx' hx).1] at hk
    rw [(hfv y hy' hy).1] at hk2
    exact pw_at hp hx' hy' (Nat.ne_of_lt hxy) k hk hk2
/-- the told files under the hands that write over them -/
structure TS (wF wr : World) (a : Option Addr) (c m i : Nat) (fs : List GF) : Prop where
  fo : FsO wr wF.heap.size a fs c
  pw : PWf fs
  up : Up wF wr
  ln : fs.length = m
  sz : ∀ k (h : k < fs.length), fs[k].ds.length ≤ 2097152
  dn : ∀ k (h : k < fs.length), k < i → fs[k].ds = List.replicate fs[k].ds.length (mkB k)
theorem FsO.some {w : World} {N : Nat} {a : Option Addr} {fs : List GF} {c i : Nat} (h : FsO w N a fs c) (hi : i < fs.length) : ∃ ga, a = some ⟨ga, 0, none⟩ ∧ N ≤ ga ∧ w.cell? ⟨ga, i * 2, none⟩ = some (.string fs[i].nm) ∧ w.cell? ⟨ga, i * 2 + 1, none⟩ = some fs[i].v ∧ w.frozen? ⟨ga, i * 2, none⟩ = false := by
  rcases h.row.2 with ⟨_, h0⟩ | ⟨g, cap, cur, e, _⟩
  · omega
  · injection e with e1 e2 e3
    subst e1
    have k1 := World.ownsRow.cells h.row (g := g) rfl (i * 2) _ (fcs_get fs hi).1
    have k2 := World.ownsRow.cells h.row (g := g) rfl (i * 2 + 1) _ (fcs_get fs hi).2
    rw [Addr.add_lit, Nat.zero_add] at k1 k2
    exact ⟨g, rfl, (World.ownsRow.lt h.row g rfl).1, k1, k2, World.ownsRow.frozenAt h.row _⟩
theorem ow_some {w : World} {N : Nat} {v : Value} {ds : List UInt8} (h : Ow w N v ds) {j : Nat} (hj : j < ds.length) : ∃ g c, v = .slice (some ⟨g, 0, none⟩) ds.length c ∧ ds.length ≤ c ∧ N ≤ g ∧ w.cell? ⟨g, j, none⟩ = some (vb ds[j]) ∧ w.frozen? ⟨g, j, none⟩ = false := by
  rcases h.2 with ⟨_, h0⟩ | ⟨g, cap, cur, e, _, _, hnc, _⟩
  · omega
  · subst e
    have k1 := World.ownsRow.cells h (g := g) rfl j _ (cb_get hj)
    rw [Addr.add_lit, Nat.zero_add] at k1
    exact ⟨g, cap, rfl, hnc, (World.ownsRow.lt h g rfl).1, k1, World.ownsRow.frozenAt h _⟩
/-- a byte is written over -/
theorem TS.byte {wF wr : World} {a : Option Addr} {c m i g n2 c2 j : Nat} {fs : List GF} {b : UInt8} (h : TS wF wr a c m i fs) (hi : i < fs.length) (hv : fs[i].v = .slice (some ⟨g, 0, none⟩) n2 c2) :
    TS wF (wr.setCell ⟨g, j, none⟩ (vb b)) a c m i (fs.set i ⟨fs[i].nm, fs[i].v, fs[i].ds.set j b⟩) := by
  obtain ⟨p1, p2, p3⟩ := FsO.setD (j := j) (m := b) h.fo h.pw hi hv
  have hg : wF.heap.size ≤ g := (World.ownsRow.lt (h.fo.dat _ (List.getElem_mem hi)) g (by rw [hv]; rfl)).1
  refine ⟨p1, p2, up_grownBy h.up p3 (fun k hk => by have := Option.some.inj hk; omega), by rw [List.length_set]; exact h.ln, fun k hk => ?_, fun k hk hki => ?_⟩
  · rw [List.length_set] at hk
    rw [List.getElem_set]
    split
    · show (fs[i].ds.set j b).length ≤ _
      rw [List.length_set]
      exact h.sz i hi
    · exact h.sz k hk
  · rw [List.length_set] at hk
    have e : (fs.set i ⟨fs[i].nm, fs[i].v, fs[i].ds.set j b⟩)[k]'(by rw [List.length_set]; exact hk) = fs[k] := by
      rw [List.getElem_set, if_neg (by omega)]
    rw [e]
    exact h.dn k hk hki
theorem TS.inner {wF wr : World} {a : Option Addr} {c m i g n2 c2 j L : Nat} {fs : List GF} (h : TS wF wr a c m i fs) (hi : i < fs.length) (hv : fs[i].v = .slice (some ⟨g, 0, none⟩) n2 c2) (hj : j < fs[i].ds.length) (hl : fs[i].ds.length = L) (hp : ∀ t, t < j → fs[i].ds[t]? = some (mkB i)) :
    ∃ fs', TS wF (wr.setCell ⟨g, j, none⟩ (vb (mkB i))) a c m i fs' ∧ ∃ h' : i < fs'.length, j + 1 ≤ fs'[i].ds.length ∧ fs'[i].ds.length = L ∧ ∀ t, t < j + 1 → fs'[i].ds[t]? = some (mkB i) := by
  refine ⟨_, h.byte (b := mkB i) hi hv, by rw [List.length_set]; exact hi, ?_⟩
  rw [List.getElem_set_self]
  refine ⟨?_, ?_, fun t ht => ?_⟩
  · rw [List.length_set]; omega
  · rw [List.length_set]; exact hl
  · rw [List.getElem?_set]
    rcases Nat.lt_or_ge t j with h1 | h1
    · rw [if_neg (by omega)]
      exact hp t h1
    · obtain rfl : j = t := by omega
      rw [if_pos rfl, if_pos hj]
/-- a file is done -/
theorem TS.name {wF wr : World} {ga c m i : Nat} {fs : List GF} {nm : ByteArray} (h : TS wF wr (some ⟨ga, 0, none⟩) c m i fs) (hi : i < fs.length) (hd : ∀ t, t < fs[i].ds.length → fs[i].ds[t]? = some (mkB i)) :
    TS wF (wr.setCell ⟨ga, i * 2, none⟩ (.string nm)) (some ⟨ga, 0, none⟩) c m (i + 1) (fs.set i ⟨nm, fs[i].v, fs[i].ds⟩) := by
  obtain ⟨p1, p2, p3⟩ := FsO.setN (nm := nm) h.fo h.pw hi
  have hg : wF.heap.size ≤ ga := (World.ownsRow.lt h.fo.row ga rfl).1
  have hfv : ∀ z (hz : z < fs.length) (hz' : z < (fs.set i ⟨nm, fs[i].v, fs[i].ds⟩).length), (fs.set i ⟨nm, fs[i].v, fs[i].ds⟩)[z].ds = fs[z].ds := fun z hz hz' => by
    rw [List.getElem_set]
    split
    · rename_i e; subst e; rfl
    · rfl
  refine ⟨p1, p2, up_grownBy h.up p3 (fun k hk => by have := Option.some.inj hk; omega), by rw [List.length_set]; exact h.ln, fun k hk => ?_, fun k hk hki => ?_⟩
  · have hk' := hk
    rw [List.length_set] at hk'
    rw [hfv k hk' hk]
    exact h.sz k hk'
  · have hk' := hk
    rw [List.length_set] at hk'
    rw [hfv k hk' hk]
    by_cases hik : k = i
    · subst hik
      refine List.ext_getElem? (fun t => ?_)
      by_cases ht : t < fs[k].ds.length
      · rw [hd t ht, List.getElem?_replicate, if_pos ht]
      · rw [List.getElem?_eq_none (by omega), List.getElem?_eq_none (by rw [List.length_replicate]; omega)]
    · exact h.dn k hk' (by omega)
end Go.Proofs.YtaibjeehjhlicaaGreatDoor
namespace Go.Proofs.YtaibjeehjhlicaaGreatDoor
open Go.RowKit Go.Shelf TextNum ModNum
/-- the longer lists that are made of the told files' bytes -/
structure MS (wF wr : World) (a : Option Addr) (c m i : Nat) (ft : List GF) (a6 : Option Addr) (c6 : Nat) (vs : List Value) : Prop where
  ts : TS wF wr a c m m ft
  ln : vs.length = i
  row : wr.ownsRow wF.heap.size 41 1 (.slice a6 i c6) i vs
  el : ∀ k (_ : k < vs.length) (_ : k < ft.length), Ow wr wF.heap.size vs[k] (List.replicate (ft[k].ds.length + 1) (mkB k))
  ne : ∀ k (_ : k < vs.length) k' (_ : k' < ft.length), k < k' → ∀ g, vs[k].ownBlock = some g → ft[k'].v.ownBlock ≠ some g
theorem TS.kept {wF wr w8 : World} {a : Option Addr} {c m i : Nat} {ft : List GF} (h : TS wF wr a c m i ft) {r : Option Nat} (g : wr.grownBy w8 r) (h1 : (Value.slice a ft.length c).ownBlock = none ∨ (Value.slice a ft.length c).ownBlock ≠ r) (h2 : ∀ q ∈ ft, Ow w8 wF.heap.size q.v q.ds) (h3 : ∀ k, r = some k → wF.heap.size ≤ k) : TS wF w8 a c m i ft :=
  ⟨⟨World.ownsRow.kept h.fo.row g h1, h2⟩, h.pw, up_grownBy h.up g h3, h.ln, h.sz, h.dn⟩
theorem MS.step1 {wF wr w8 : World} {a : Option Addr} {c m i : Nat} {ft : List GF} {a6 : Option Addr} {c6 : Nat} {vs : List Value} (h : MS wF wr a c m i ft a6 c6 vs) (hi : i < ft.length) {n : Nat} {v : Value} (hn : ft[i].ds.length = n)
    (o8 : w8.ownsRow wF.heap.size 5 1 v (n + 1) (cb (ft[i].ds ++ [mkB i]))) (p8 : w8.ownsRow wF.heap.size 5 1 ft[i].v n (cb ft[i].ds)) (g8 : wr.grownBy w8 ft[i].v.ownBlock) (b8 : v.ownBlock = ft[i].v.ownBlock ∨ ∀ g, v.ownBlock = some g → wr.heap.size ≤ g) :
    MS wF w8 a c m i ft a6 c6 vs ∧ Ow w8 wF.heap.size v (List.replicate (n + 1) (mkB i)) ∧ ∀ k' (_ : k' < ft.length), i < k' → ∀ g, v.ownBlock = some g → ft[k'].v.ownBlock ≠ some g := by
  have him : i < m := by have := h.ts.ln; omega
  have hds := h.ts.dn i hi him
  rw [hn] at hds
  have hT : TS wF w8 a c m m ft := h.ts.kept g8 (.inr (fun e => by
    cases q : (Value.slice a ft.length c).ownBlock with
    | none =>
      rcases h.ts.fo.row.2 with ⟨_, h0⟩ | ⟨g, cap, cur, e1, _⟩
      · omega
      · rw [e1] at q; cases q
    | some k => exact h.ts.fo.row_ne (List.getElem_mem hi) k (by rw [← e, q]) q)) (fun q hq => by
    obtain ⟨k, hk, rfl⟩ := List.mem_iff_getElem.1 hq
    by_cases hki : k = i
    · subst hki
      unfold Ow
      rw [hn]
      exact p8
    · refine World.ownsRow.kept (h.ts.fo.dat _ (List.getElem_mem hk)) g8 ?_
      cases q : ft[k].v.ownBlock with
      | none => exact .inl rfl
      | some b => exact .inr (fun e => pw_at h.ts.pw hk hi hki b q e.symm)) (fun k hk => (World.ownsRow.lt (h.ts.fo.dat _ (List.getElem_mem hi)) k hk).1)
  refine ⟨⟨hT, h.ln, World.ownsRow.kept h.row g8 ?_, fun k hk hk2 => World.ownsRow.kept (h.el k hk hk2) g8 ?_, h.ne⟩, ?_, fun k' hk' hlt g hg => ?_⟩
  · rcases own_off' h.row (h.ts.fo.dat _ (List.getElem_mem hi)) (by decide) with q | q
    · exact .inl q
    · exact .inr q
  · cases q : vs[k].ownBlock with
    | none => exact .inl rfl
    | some b => exact .inr (fun e => h.ne k hk i hi (by have := h.ln; omega) b q e.symm)
  · unfold Ow
    rw [List.length_replicate]
    have e : List.replicate (n + 1) (mkB i) = ft[i].ds ++ [mkB i] := by rw [hds, List.replicate_succ']
    rw [e]
    exact o8
  · rcases b8 with q | q
    · rw [q] at hg
      exact pw_at h.ts.pw hi hk' (by omega) g hg
    · have h1 := q g hg
      intro e
      have h2 := (World.ownsRow.lt (h.ts.fo.dat _ (List.getElem_mem hk')) g e).2
      omega
theorem MS.step2 {wF w8 w9 : World} {a : Option Addr} {c m i : Nat} {ft : List GF} {a6 a9 : Option Addr} {c6 c9 : Nat} {vs : List Value} (h : MS wF w8 a c m i ft a6 c6 vs) (hi : i < ft.length) {v : Value} (hv : Ow w8 wF.heap.size v (List.replicate (ft[i].ds.length + 1) (mkB i))) (hne : ∀ k' (_ : k' < ft.length), i < k' → ∀ g, v.ownBlock = some g → ft[k'].v.ownBlock ≠ some g)
    (o9 : w9.ownsRow wF.heap.size 41 1 (.slice a9 (i + 1) c9) (i + 1) (vs ++ [v])) (g9 : w8.grownBy w9 (Value.slice a6 i c6).ownBlock) :
    MS wF w9 a c m (i + 1) ft a9 c9 (vs ++ [v]) := by
  have key : ∀ u ds, Ow w8 wF.heap.size u ds → Ow w9 wF.heap.size u ds := fun u ds hu => World.ownsRow.kept hu g9 (own_off' hu h.row (by decide))
  have hT : TS wF w9 a c m m ft := h.ts.kept g9 (own_off' h.ts.fo.row h.row (by decide)) (fun q hq => key _ _ (h.ts.fo.dat q hq)) (fun k hk => (World.ownsRow.lt h.row k hk).1)
  refine ⟨hT, by rw [List.length_append, h.ln]; rfl, o9, fun k hk hk2 => ?_, fun k hk k' hk' hlt => ?_⟩
  · by_cases hkv : k < vs.length
    · rw [List.getElem_append_left hkv]
      exact key _ _ (h.el k hkv hk2)
    · obtain rfl : k = i := by rw [List.length_append, List.length_singleton, h.ln] at hk; rw [h.ln] at hkv; omega
      rw [List.getElem_append_right (by rw [h.ln]; exact Nat.le_refl _)]
      simp only [h.ln, Nat.sub_self, List.getElem_cons_zero]
      exact key _ _ hv
  · by_cases hkv : k < vs.length
    · rw [List.getElem_append_left hkv]
      exact h.ne k hkv k' hk' hlt
    · obtain rfl : k = i := by rw [List.length_append, List.length_singleton, h.ln] at hk; rw [h.ln] at hkv; omega
      rw [List.getElem_append_right (by rw [h.ln]; exact Nat.le_refl _)]
      simp only [h.ln, Nat.sub_self, List.getElem_cons_zero]
      exact hne k' hk' hlt
end Go.Proofs.YtaibjeehjhlicaaGreatDoor
namespace Go.Proofs.YtaibjeehjhlicaaGreatDoor
open Go.RowKit Go.Shelf TextNum ModNum
theorem fsOf_has {nf : List (List UInt8 × FL)} (nd : (nf.map (·.1)).Nodup) {p : List UInt8 × FL} (hp : p ∈ nf) : (p.1, p.2.nb) ∈ fsOf nf := by
  unfold fsOf
  refine List.mem_map.2 ⟨p.1, (srt_mem).2 (List.mem_map_of_mem hp), ?_⟩
  rw [nbOf_mem nd hp]
theorem usd_le {nf : List (List UInt8 × FL)} (nd : (nf.map (·.1)).Nodup) (hl : nf.length ≤ 200) (h : ∀ p ∈ fsOf nf, p.2.length ≤ 2097152) : usd nf ≤ 419430400 := by
  have h1 := sum_leX (X := 2097152) (nf.map fun p => p.2.nb.length) (fun x hx => by
    obtain ⟨p, hp, rfl⟩ := List.mem_map.1 hx
    exact h _ (fsOf_has nd hp))
  rw [List.length_map] at h1
  unfold usd
  have := Nat.mul_le_mul_right 2097152 hl
  omega
theorem name_at {fs : List GF} {F : List (List UInt8 × List UInt8)} (h : fs.map pr = F) {i : Nat} (hi : i < fs.length) : (cst (F.map Prod.fst))[i]? = some (.string fs[i].nm) := by
  subst h
  unfold cst
  rw [List.getElem?_map, List.getElem?_map, List.getElem?_map, List.getElem?_eq_getElem hi]
  rfl
abbrev newN : ByteArray := ⟨#[110, 101, 119]⟩
theorem newN_nm : isNm newN.data.toList = true := by decide +kernel
theorem new_own : ∀ (m : Nat) (s : DD), ownE 3 newN newN 0 m s = 0 := fun m s => by
  rw [own3]
  unfold nmE
  rw [if_pos newN_nm]
theorem new_cr {s s' : DD} (hd : s.dead = false) (hu : s.unt = 0) (n : ND s) (hp : Stp 3 newN newN 0 [] s s') : s'.dead = false ∧ s'.unt = 0 ∧ s'.room = s.room ∧ Has s' newN.data.toList [] false ∧ usd s'.nf ≤ usd s.nf := by
  obtain ⟨c1, _, c3, _⟩ := hp.cnt hd
  have e := hp.done hd (new_own _ _) (fau_zero hu)
  refine ⟨hp.lives hd (by rw [fau_zero hu]; decide), by rw [c3, hu], c1, Has.cr e, ?_⟩
  obtain ⟨F, bp, b2, vC, vLo, rfl⟩ := eff_cr e
  show usd (drp s.nf newN.data.toList ++ [(newN.data.toList, fnew F)]) ≤ _
  rw [usd_append, usd_cons]
  have h1 := usd_drp_le s.nf newN.data.toList n.1
  have h2 : (Prod.snd (newN.data.toList, fnew F)).nb.length = 0 := rfl
  have h3 : usd ([] : List (List UInt8 × FL)) = 0 := rfl
  omega
theorem new_wr {s : DD} (hr : s.room = 1099511627776) (hus : usd s.nf ≤ 419430400) (h : Has s newN.data.toList [] false) (hnm : ∀ p ∈ s.nf, isNm p.1 = true) : ownE 4 newN newN 0 ([1, 2, 3] : List UInt8).length s = 0 := by
  rw [own4, if_pos (h.lives hnm)]
  unfold wrF
  rw [if_neg (by omega), if_neg]
  rintro ⟨_, hq⟩
  have : gro (nbOf s.nf newN.data.toList).length 0 ([1, 2, 3] : List UInt8).length ≤ 3 := by
    show gro _ 0 3 ≤ 3
    unfold gro; split <;> omega
  rw [hr] at hq
  omega
theorem new_wr2 {s s' : DD} (hd : s.dead = false) (hu : s.unt = 0) (h0 : ownE 4 newN newN 0 ([1, 2, 3] : List UInt8).length s = 0) (h : Has s newN.data.toList [] false) (n : ND s) (hp : Stp 4 newN newN 0 [1, 2, 3] s s') : s'.dead = false ∧ Has s' newN.data.toList [1, 2, 3] false := by
  have e := hp.done hd h0 (fau_zero hu)
  refine ⟨hp.lives hd (by rw [fau_zero hu]; decide), ?_⟩
  have h5 := Has.wr (s := acS s) ⟨n.1, n.2⟩ e (show Has (acS s) newN.data.toList [] false from h)
  rw [if_neg (by decide)] at h5
  exact h5
/-- a text beside the third disk -/
structure RB (w : World) (N E : Nat) (s : DD) (v : Value) (ds : List UInt8) : Prop where
  row : Ow w N v ds
  no : ∀ k, v.ownBlock = some k → ¬ own E s k
theorem RB.up {w w' : World} {N E : Nat} {s : DD} {v : Value} {ds : List UInt8} (h : RB w N E s v ds) (u : Up w w') : RB w' N E s v ds := ⟨ow_up h.row u, h.no⟩
theorem RB.disk {w w' : World} {N E : Nat} {s s' : DD} {v : Value} {ds : List UInt8} (h : RB w N E s v ds) (f : Fr (own E s) w w') (n : Nw w.heap.size E s s') : RB w' N E s' v ds :=
  ⟨f.own h.row h.no, fun k hk ho => by
    rcases n k ho with h1 | h1
    · exact h.no k hk h1
    · have := (World.ownsRow.lt h.row k hk).2; omega⟩
theorem RB.fresh {w w' : World} {N B E T : Nat} {s : DD} {v : Value} {ds : List UInt8} (h : Ow w' w.heap.size v ds) (k : DOk w B E T s) (hN : N ≤ w.heap.size) : RB w' N E s v ds :=
  ⟨ow_base h hN, fun b hb ho => by
    have h1 := (World.ownsRow.lt h b hb).1
    have h2 := k.lt ho
    omega⟩
theorem FsO.fr2 {S : Nat → Prop} {w0 w w' : World} {N : Nat} {a : Option Addr} {fs : List GF} {c : Nat} (h0 : FsO w0 N a fs c) (h : FsO w N a fs c) (k : Fr S w w') (hS : ∀ b, S b → b < N ∨ w0.heap.size ≤ b) : FsO w' N a fs c :=
  ⟨k.own h.row (fun g hg hs => by
    have h1 := (World.ownsRow.lt h0.row g hg)
    have := hS g hs; omega), fun g hg => k.own (h.dat g hg) (fun b hb hs => by
    have h1 := (World.ownsRow.lt (h0.dat g hg) b hb)
    have := hS b hs; omega)⟩
/-- what the end of DiskWorlds keeps -/
structure TL (W wq w : World) (N0 D A E Td Te : Nat) (sd sa se : DD) (a : Option Addr) (fs : List GF) (c : Nat) : Prop where
  t : T3 W w D A E Td 0 Te sd sa se
  b0 : FsO wq N0 a fs c
  b : FsO w N0 a fs c
  od : ∀ k, own D sd k ∨ own A sa k → k < N0
  oe : ∀ k, own E se k → k < N0 ∨ wq.heap.size ≤ k
  lo : W.heap.size ≤ N0 ∧ N0 ≤ wq.heap.size
  up : wq.heap.size ≤ w.heap.size
theorem TL.upTo {W wq w w' : World} {N0 D A E Td Te : Nat} {sd sa se : DD} {a : Option Addr} {fs : List GF} {c : Nat} (h : TL W wq w N0 D A E Td Te sd sa se a fs c) (u : Up w w') : TL W wq w' N0 D A E Td Te sd sa se a fs c :=
  ⟨h.t.upTo u, h.b0, h.b.up u, h.od, h.oe, h.lo, Nat.le_trans h.up u.size⟩
theorem TL.act {W wq w w' : World} {N0 D A E Td Te : Nat} {sd sa se se' : DD} {a : Option Addr} {fs : List GF} {c : Nat} (h : TL W wq w N0 D A E Td Te sd sa se a fs c) (x : AftX w w' W.heap.size E Te se se') : TL W wq w' N0 D A E Td (Te + 3) sd sa se' a fs c :=
  ⟨h.t.chg x.1 x.2.2 x.2.1, h.b0, FsO.fr2 h.b0 h.b x.2.2 h.oe, h.od, fun k hk => (x.2.1 k hk).elim (h.oe k) (fun q => .inr (Nat.le_trans h.up q)), h.lo, Nat.le_trans h.up x.2.2.size⟩
theorem TL.set {W wq w w' : World} {N0 D A E Td Te g : Nat} {sd sa se : DD} {a : Option Addr} {fs : List GF} {c : Nat} (h : TL W wq w N0 D A E Td Te sd sa se a fs c) (k : w.grownBy w' (some g)) (hg : wq.heap.size ≤ g) (he : ¬ own E se g) : TL W wq w' N0 D A E Td Te sd sa se a fs c := by
  have hf : Fr (fun k => k = g) w w' := (Fr.refl (fun k => k = g) w).by k (fun b hb => .inl (Option.some.inj hb).symm)
  have h1 := h.lo
  refine ⟨h.t.fr hf (fun k hk => ⟨fun q => ?_, fun q => ?_, fun q => he (hk ▸ q), ?_⟩), h.b0, FsO.fr2 h.b0 h.b hf (fun k hk => .inr (by show wq.heap.size ≤ k; exact hk ▸ hg)), h.od, h.oe, h.lo, Nat.le_trans h.up k.size⟩
  · have h2 := h.od k (.inl q)
    have h3 : k = g := hk
    omega
  · have h2 := h.od k (.inr q)
    have h3 : k = g := hk
    omega
  · have h3 : k = g := hk
    omega
/-- the first crashes once more -/
theorem TL.die {W wq w w' : World} {N0 D A E Td Te : Nat} {sd sa se : DD} {a : Option Addr} {fs : List GF} {c : Nat} (h : TL W wq w N0 D A E Td Te sd sa se a fs c) (f : Fr (fun k => k = D) w w') (hD : ∀ k, k = D → k < N0) : BK W w' A 0 sa ∧ FsO w' N0 a fs c :=
  ⟨h.t.a.fr f (fun b hb e => h.t.da b (e ▸ .inl rfl) hb) (fun b e => h.t.d.lo b (e ▸ .inl rfl)), FsO.fr2 h.b0 h.b f (fun b hb => .inl (hD b hb))⟩
theorem Ow.ofSb3 {w : World} {N : Nat} {v : Value} (h : Ow w N v ([1, 2, 3] ++ List.replicate 300 9)) : Sb w v ([1, 2, 3] ++ List.replicate 300 9) := h.sb
theorem mine_len : ([1, 2, 3] ++ List.replicate 300 9 : List UInt8).length = 303 := by rw [List.length_append, List.length_replicate]; rfl
theorem mine_take {w : World} {g c : Nat} (h : Sb w (.slice (some ⟨g, 0, none⟩) 303 c) ([1, 2, 3] ++ List.replicate 300 9)) : Sb w (.slice (some ⟨g, 0, none⟩) 3 c) [1, 2, 3] := by
  have h6 := Sb.take (ds := [1, 2, 3] ++ List.replicate 300 9) (by rw [mine_len]; exact h) 3 (by rw [mine_len]; omega)
  exact h6
end Go.Proofs.YtaibjeehjhlicaaGreatDoor
namespace Go.Proofs.YtaibjeehjhlicaaGreatDoor
open Go.ChangeShapes Go.WideShapes Go.ChangeAt Go.WideMaps Go.WideElems Go.RowKit TextNum
theorem one_leB {H : Type} (d : DataW H) : 1 ≤ Rows.uptoBulk d := by
  cases d with
  | lit l => cases l <;> simp [Rows.uptoBulk]
  | nil => simp [Rows.uptoBulk]
  | ptr d => simp [Rows.uptoBulk]
  | slice elems spare => simp [Rows.uptoBulk]
  | agg parts => simp [Rows.uptoBulk]
  | iface t d => simp [Rows.uptoBulk]
  | map entries => simp [Rows.uptoBulk]
  | held h => simp [Rows.uptoBulk]
theorem len_leB {H : Type} : ∀ (l : List (DataW H)), l.length ≤ Rows.uptoBulkAll l
  | [] => Nat.zero_le _
  | x :: r => by have := one_leB x; have := len_leB r; simp only [Rows.uptoBulkAll, List.length_cons]; omega
set_option maxRecDepth 100000 in
/-- a list of ints as an argument, with its bulk -/
theorem si_openU {H : Type} {enc : TypeId × Value → H} {W : World} {v : Value} {d : DataW H} {ps : List MemPlace} {base : Nat}
    (hval : Value.okWide Tryz.prog W .any base 23 v) (h : DataW.Trod enc Tryz.prog W 0 (fun _ => true) true 23 v d ps) : ∃ cs, SI W v cs ∧ cs.length ≤ Rows.uptoBulk d := by
  obtain ⟨a, len, cap, rfl⟩ := okWide_slice Tryz.underlying23 hval
  obtain ⟨fuel, hf⟩ := h
  have hf' : DataW.trod enc Tryz.prog W 0 (fun _ => true) true fuel 23 [.slice a len cap] = some (d, ps) := hf
  rcases open_ints Tryz.underlying23 Tryz.underlying3 cellsI hf' with ⟨e1, _⟩ | ⟨ad, l2, c2, zs, e1, _, hlc, hcm, hzl, hx, hcell, hwf⟩
  · simp only [List.cons.injEq, Value.slice.injEq, and_true] at e1
    obtain ⟨rfl, rfl, rfl⟩ := e1
    exact ⟨[], ⟨none, 0, rfl, Nat.le_refl _, by simp [maxLen], fun _ => ⟨rfl, rfl⟩, (fun _ e => by cases e)⟩, Nat.zero_le _⟩
  · simp only [List.cons.injEq, Value.slice.injEq, and_true] at e1
    obtain ⟨rfl, rfl, rfl⟩ := e1
    simp only [if_true] at hzl
    injection hx with hd _
    have hlen : (zs.take len).length = len := by rw [List.length_take, Nat.min_eq_left (by omega)]
    refine ⟨zs.take len, ⟨some ad, cap, by rw [hlen], by rw [hlen]; omega, hcm, (fun e => by cases e), fun ad' e => ?_⟩, ?_⟩
    · obtain rfl := Option.some.inj e
      refine ⟨fun h0 => ?_, fun j u hj => ?_⟩
      · have h1 : 0 < len := by
          rcases Nat.eq_zero_or_pos len with h | h
          · exfalso; apply h0; subst h; simp
          · exact h
        exact plain_of (hcell 0 (by omega))
      · have hj1 : j < len := by
          have := (List.getElem?_eq_some_iff.1 hj).1
          rw [ci_length, hlen] at this
          exact this
        have hj2 : j < zs.length := by omega
        have h1 := hcell j hj2
        have h2 : (ci (zs.take len))[j]? = some (.int .i64 zs[j]) := by
          unfold ci
          rw [List.getElem?_map, List.getElem?_take_of_lt hj1, List.getElem?_eq_getElem hj2]
          rfl
        rw [h2] at hj
        rw [h1, ← hj]
        simp only [List.getD_eq_getElem?_getD, List.getElem?_eq_getElem hj2, Option.getD_some]
    · rw [hlen, hd]
      have h1 := len_leB (lits (H := H) .i64 (zs.take len))
      have e : (lits (H := H) .i64 (zs.take len)).length = (zs.take len).length := by simp [lits]
      rw [e, hlen] at h1
      simp only [Rows.uptoBulk]
      omega
end Go.Proofs.YtaibjeehjhlicaaGreatDoor
namespace Go.Proofs.YtaibjeehjhlicaaGreatDoor
open Go.RowKit Go.Shelf TextNum ModNum
theorem LF.leX {s : DD} {cs : List Int} {gs : LG} {ws : List WL} {X : Nat} (h : LF s cs gs ws) (hF : CF s X) : ∀ p ∈ srF (lfs cs 1 gs ws), p.2.length ≤ X := fun p hp => by
  have hw : ∀ x ∈ ws, x.l.p + x.l.ds.length ≤ X := fun x hx => by
    obtain ⟨hi, hl⟩ := wls_mem (h.pm.mem_iff.1 hx)
    exact (hF.sz _ (h.fl _ (List.getElem_mem hi)).1).2 _ hl
  exact lfs_mem (cs := cs) (k0 := 1) (fun p hp => (hF.sz _ (h.fl p hp).1).1) hw p ((srF_mem h.ndl).1 hp)
theorem fsOf_len (nf : List (List UInt8 × FL)) : (fsOf nf).length = nf.length := by
  unfold fsOf
  rw [List.length_map, srt_len, List.length_map]
theorem fsOf_fst (nf : List (List UInt8 × FL)) : (fsOf nf).map Prod.fst = srt (nf.map (·.1)) := by
  unfold fsOf
  rw [List.map_map]
  exact List.map_id _
theorem LF.dd {s : DD} {cs : List Int} {gs : LG} {ws : List WL} (h : LF (ddS s) cs gs ws) : LF s cs gs ws := ⟨h.nd, h.nm, h.fl, h.pm, h.so⟩
theorem si_cell {w : World} {a : Option Addr} {c : Nat} {cs : List Int} (h : SI w (.slice a cs.length c) cs) {i : Nat} (hi : i < cs.length) : ∃ b off, a = some ⟨b, off, none⟩ ∧ w.cell? ⟨b, off + i, none⟩ = some (.int .i64 cs[i]) := by
  obtain ⟨a', c', e, _, _, h3, h4⟩ := h
  injection e with e1 e2 e3
  subst e1
  cases a with
  | none => have := (h3 rfl).1; rw [this] at hi; cases hi
  | some ad =>
    obtain ⟨b, off, sp⟩ := ad
    obtain rfl : sp = none := (h4 _ rfl).1 (fun e => by rw [e] at hi; cases hi)
    refine ⟨b, off, rfl, ?_⟩
    have := (h4 _ rfl).2 i (.int .i64 cs[i]) (by simp [ci, hi])
    rw [Addr.add_lit] at this
    exact this
theorem ci_rep {cs : List Int} {n : Nat} {x : Int} {k : Nat} (hk : cs.length ≤ k) (hk2 : k < cs.length + n) : (ci (cs ++ List.replicate n x))[k]? = some (.int .i64 x) := by
  rw [ci_append, List.getElem?_append_right (by rw [ci_length]; exact hk), ci_length]
  unfold ci
  rw [List.getElem?_map, List.getElem?_replicate, if_pos (by omega)]
  rfl
set_option maxRecDepth 100000 in
set_option maxHeartbeats 32000000 in
theorem worlds_walk (a : Option Addr) (os : List OP) (c : Nat) (vc : Value) (cs : List Int) (w : World) (hP : SCR w a os c) (hC : SI w vc cs) (hcl : cs.length ≤ 1048576) (hll : os.length ≤ 4611686018427387904) (hG : ML w) (hV : 0 < w.heap.size) :
    Calls Tryz.prog 7 #[.slice a os.length c, vc] w fun e w' => e = .returned (.bool true) ∧ Up w w' := by
  have HC := Hid.of hC
  obtain ⟨ac, cc, rfl, hcc, _, hcn, hcells⟩ := id hC
  have HBe := Hid.of (begun_walk a os c w hP hll hG hV)
  have HV := Hid.of hV
  clear hP hG hV hC
  go_enter Tryz.func7, Tryz.ntmps7
  go_wp2_with fail
  refine HBe.out.mono ?_
  rintro e w2 ⟨D, s, rfl, b2⟩
  have HB2 := Hid.of b2
  clear b2 HBe
  have hpD : ∀ w', (binOp .eql 24 (.pointer (some ⟨D, 0, none⟩)) (.pointer none)).run Tryz.prog w' = .ok (.bool false) w' := fun w' => by kernel_rfl
  dsimp only
  have HH := Hid.of (head_walk w2 HB2.out.bj.ok.ml (by have := HV.out; have := HB2.out.bj.up.size; omega))
  go_wp2_with fail
  refine HH.out.mono ?_
  rintro e w3 ⟨rfl, u3⟩
  have HB3 := Hid.of (HB2.out.upTo u3)
  clear u3 HH HB2
  dsimp only
  have HCI := Hid.of (copiedInts_walk (.slice ac cs.length cc) cs w3 (HC.out.up HB3.out.bj.up) (by omega))
  go_wp2_with fail
  refine HCI.out.mono ?_
  rintro e w4 ⟨v4, rfl, o4, u4⟩
  obtain ⟨a4, c4, rfl⟩ := row_len o4
  have HR4 := Hid.of (show w4.ownsRow w3.heap.size 3 1 (.slice a4 cs.length c4) cs.length (ci cs) ∧ Up w3 w4 from ⟨o4, u4⟩)
  clear o4 u4 HCI
  dsimp only
  obtain ⟨i0, hi0, hz0, hz1, hz2⟩ := info_parts Tryz.infoInt
  go_wp2
  go_loopw [6, 7] (fun v6 v7 wr => ∃ i : Nat, v7 = .int .i64 (i : Int) ∧ i ≤ 200 ∧ ∃ a6 c6, v6 = .slice a6 (cs.length + i) c6 ∧ Hid (wr.ownsRow w3.heap.size 3 1 (.slice a6 (cs.length + i) c6) (cs.length + i) (ci (cs ++ List.replicate i 77)) ∧ Up w3 wr)) (fun _ v7 _ => 200 - (intOf v7).toNat)
  case atStart => exact ⟨0, rfl, by omega, a4, c4, rfl, Hid.of ⟨by simpa using HR4.out.1, HR4.out.2⟩⟩
  case round =>
    obtain ⟨i, rfl, hi, a6, c6, rfl, hR⟩ := hrel
    have HR := Hid.of hR.out
    clear hR HR4
    by_cases hlt : i < 200
    · have hz : (i : Int) < 200 := by omega
      go_wp2_with (with_reducible show wpList _ _ _ ({ dst := _, op := Op.call { callee := Callee.builtin Builtin.append, args := _, argTypes := _ }, type := _, pos := _, after := _, guard := _ } :: _) _ _; refine Shut.out ?_)
      show wpList _ _ _ _ _ _
      refine wpList_append_frs rfl _ _ 23 rfl w3.heap.size 3 i0 (.int .i64 0) 8 Tryz.underlying23 hi0 hz0 hz1 hz2 rfl (.slice a6 (cs.length + i) c6) (cs.length + i) (ci (cs ++ List.replicate i 77)) rfl (ow_up HR.out.1 ((Up.refl wr).alloc (.cells [.int .i64 77].toArray 3))) ⟨wr.heap.size, 0, none⟩ 1 1 [.int .i64 77] rfl rfl ?_ ?_ (by simp only [maxLen]; omega) (by omega) (by have := HR.out.2.size; rw [alloc_size]; omega) ?_
      · intro j u hu
        rw [Addr.add_lit]
        exact At.cell (at_new wr 3 [.int .i64 77]) (i := 0 + j) (by rw [Nat.zero_add]; exact hu)
      · intro u hu
        obtain rfl := List.mem_singleton.1 hu
        rfl
      intro v8 w8 o8 g8 f8
      obtain ⟨a8, c8, rfl⟩ := row_len o8
      have HR8 := Hid.of (show w8.ownsRow w3.heap.size 3 1 (.slice a8 (cs.length + (i + 1)) c8) (cs.length + (i + 1)) (ci (cs ++ List.replicate (i + 1) 77)) ∧ Up w3 w8 from ⟨by
        have e : ci (cs ++ List.replicate (i + 1) 77) = ci (cs ++ List.replicate i 77) ++ [.int .i64 77] := by rw [List.replicate_succ', ← List.append_assoc, ci_append]; rfl
        rw [e]
        exact o8, up_grownBy (HR.out.2.trans ((Up.refl wr).alloc (.cells [.int .i64 77].toArray 3))) g8 (fun k hk => (World.ownsRow.lt HR.out.1 k hk).1)⟩)
      clear o8 g8 f8
      simp only [Act.put, List.setIfInBounds_toArray, List.set_cons_zero, List.set_cons_succ]
      go_wp2
      go_roundw
      all_goals first
        | exact ⟨i + 1, by go_num, by omega, a8, c8, rfl, Hid.of HR8.out⟩
        | (simp [intOf]; omega)
    · have hie : i = 200 := by omega
      subst hie
      obtain ⟨gf, rfl⟩ : ∃ gf, a6 = some ⟨gf, 0, none⟩ := by
        rcases HR.out.1.2 with ⟨_, h0⟩ | ⟨g, cap, cur, e, _⟩
        · omega
        · injection e with e1 _ _
          exact ⟨g, e1⟩
      have hc6 : cs.length + 200 ≤ c6 := by
        rcases HR.out.1.2 with ⟨_, h0⟩ | ⟨g, cap, cur, e, _, _, hnc, _⟩
        · omega
        · injection e with _ _ e3
          omega
      have hc6z : (cs.length : Int) ≤ (c6 : Int) := by omega
      have hc7z : (cs.length : Int) + 200 ≤ (c6 : Int) := by omega
      have HGf := Hid.of (show w3.heap.size ≤ gf ∧ gf < wr.heap.size from World.ownsRow.lt HR.out.1 gf rfl)
      have HGw := Hid.of (show w.heap.size ≤ gf from Nat.le_trans HB3.out.bj.up.size HGf.out.1)
      have HB5 := Hid.of (HB3.out.upTo HR.out.2)
      have HIW := Hid.of HB3.out.bj.iv
      have HIV := Hid.of (show CF s 2097152 ∧ CW s ∧ TN s ∧ s.n0 + 604 + 604 ≤ 1000000 ∧ s.room = 1099511627776 ∧ (fls s).length ≤ 200 from ⟨HB3.out.bj.iv.cf (by omega), HB3.out.bj.iv.cw, HB3.out.bj.iv.tn, by have := HB3.out.bj.iv.n0; omega, HB3.out.room, HB3.out.bj.iv.cnt⟩)
      have HSi := Hid.of (show Sint wr (.slice (some ⟨gf, 0, none⟩) cs.length c6) cs from ⟨_, _, rfl, by omega, fun i hi => ⟨gf, 0, rfl, by
        have h5 := World.ownsRow.cells HR.out.1 (g := gf) rfl i (.int .i64 cs[i]) (by rw [ci_append, List.getElem?_append_left (by rw [ci_length]; exact hi)]; simp [ci, hi])
        rw [Addr.add_lit] at h5
        exact h5⟩⟩)
      have HCr := Hid.of (Crash_gen _ D _ 2097152 s (.slice (some ⟨gf, 0, none⟩) cs.length c6) cs wr HB5.out.bj.ok HSi.out (fun g hg => by
        obtain rfl : gf = g := Option.some.inj hg
        have h1 := lt_of_at HB3.out.bj.ok.disk
        have h2 := HGf.out
        omega) HIV.out.1 (by have := HIV.out; omega) (by omega))
      clear HSi
      go_wp2_with fail
      refine HCr.out.mono ?_
      rintro e w7 ⟨A, sa, fs, gs, ws, w6, rfl, q1, q2, q3, q4, q5, q6, q7, q8, q9⟩
      have HLF := Hid.of (show LF s cs gs ws from ⟨q4, q5, q6, q7, q8⟩)
      have HUp := Hid.of (HR.out.2)
      have HD7 := Hid.of (show BK w w7 D 601 (ddS s) from (show BK w wr D 600 s from ⟨HB5.out.bj.ok, HB5.out.bj.up, HB5.out.bj.lo⟩).chg ((HB5.out.bj.ok.died q1 q2 (by omega)).up q3.up) ((q1.up q3.up).weak (fun _ hb => hb ▸ .inl rfl)) (fun _ hb => .inl hb))
      have HA7 := Hid.of (show BK w w7 A 0 sa ∧ (∀ k, own D (ddS s) k → ¬ own A sa k) ∧ fsOf sa.nf = srF (lfs cs 1 gs ws) ∧ sa.dead = false ∧ sa.chs.length + lsd (fls sa) = 0 from ⟨q3.bk (up_fr HB5.out.bj.up (fun k hk => by
        obtain rfl : k = D := hk
        exact HB5.out.bj.lo k (.inl rfl)) q1) HV.out, fun k hk ha => by
        have h1 := HB5.out.bj.ok.lt hk
        have h2 := q3.lo k ha
        have h3 := q1.size
        omega, by rw [q3.fs]; exact congrArg srF q9, q3.st.1, q3.pend⟩)
      have HR7 := Hid.of (show ∃ xs, w7.ownsRow w3.heap.size 3 1 (.slice (some ⟨gf, 0, none⟩) (cs.length + 200) c6) (cs.length + 200) xs ∧ (∀ k, k < cs.length → ∀ h : k < cs.length, xs[k]? = some (.int .i64 cs[k])) ∧ ∀ k, cs.length ≤ k → k < cs.length + 200 → xs[k]? = some (.int .i64 77) from ⟨_, ow_up (q1.own HR.out.1 (fun g hg e => by
        have h1 := lt_of_at HB3.out.bj.ok.disk
        have h2 := (World.ownsRow.lt HR.out.1 g hg).1
        have h3 : g = D := e
        omega)) q3.up, fun k hk _ => by rw [ci_append, List.getElem?_append_left (by rw [ci_length]; exact hk)]; simp [ci, hk], fun k hk hk2 => ci_rep hk hk2⟩)
      have HGn := Hid.of (show ¬ own D (ddS s) gf ∧ ¬ own A sa gf from ⟨fun h => by
        have h1 := HB3.out.bj.ok.lt h
        have h2 := HGf.out
        omega, fun h => by
        have h1 := q3.lo gf h
        have h2 := q1.size
        have h3 := HGf.out
        omega⟩)
      clear q1 q2 q3 q4 q5 q6 q7 q8 q9 HCr HB5 HB3 HR HUp
      have hpA : ∀ w', (binOp .eql 24 (.pointer (some ⟨A, 0, none⟩)) (.pointer none)).run Tryz.prog w' = .ok (.bool false) w' := fun w' => by kernel_rfl
      dsimp only
      go_wp2
      go_loopw [9] (fun v9 wr => ∃ i : Nat, v9 = .int .i64 (i : Int) ∧ cs.length ≤ i ∧ i ≤ cs.length + 200 ∧ Hid (wr = w7)) (fun v9 _ => cs.length + 200 - (intOf v9).toNat)
      case atStart => exact ⟨cs.length, rfl, by omega, by omega, Hid.of rfl⟩
      case round =>
        obtain ⟨i, rfl, hi1, hi2, hQ⟩ := hrel
        obtain rfl := hQ.out
        clear hQ
        by_cases hlt : i < cs.length + 200
        · have hz : (i : Int) < (cs.length : Int) + 200 := by omega
          obtain ⟨xs, hr1, hr2, hr3⟩ := HR7.out
          have k1 := World.ownsRow.cells hr1 (g := gf) rfl i _ (hr3 i hi1 hlt)
          rw [Addr.add_lit, Nat.zero_add] at k1
          clear hr1 hr2 hr3
          go_wp2
          go_roundw
          all_goals first
            | exact ⟨i + 1, by go_num, by omega, by omega, Hid.of trivial⟩
            | (simp [intOf]; omega)
        · have hie : i = cs.length + 200 := by omega
          subst hie
          have hz : ¬ ((cs.length : Int) + 200) < (cs.length : Int) + 200 := by omega
          go_wp2
          go_loopw [10] (fun v10 wr => ∃ i : Nat, v10 = .int .i64 (i : Int) ∧ i ≤ cs.length ∧ Hid (BK w wr D 601 (ddS s) ∧ BK w wr A 0 sa ∧ ∃ xs, wr.ownsRow w3.heap.size 3 1 (.slice (some ⟨gf, 0, none⟩) (cs.length + 200) c6) (cs.length + 200) xs ∧ ∀ k, i ≤ k → ∀ h : k < cs.length, xs[k]? = some (.int .i64 cs[k]))) (fun v10 _ => cs.length - (intOf v10).toNat)
          case atStart => exact ⟨0, rfl, by omega, Hid.of ⟨HD7.out, HA7.out.1, by
            obtain ⟨xs, hr1, hr2, hr3⟩ := HR7.out
            exact ⟨xs, hr1, fun k _ h => hr2 k h h⟩⟩⟩
          case round =>
            obtain ⟨i, rfl, hi, hQ⟩ := hrel
            have HD8 := Hid.of hQ.out.1
            have HA8 := Hid.of hQ.out.2.1
            obtain ⟨xs, hx⟩ := hQ.out.2.2
            have HX := Hid.of hx
            clear hQ hx HR7 HD7
            by_cases hlt : i < cs.length
            · have hz : (i : Int) < (cs.length : Int) := by omega
              have hz6 : (i : Int) < (cs.length : Int) + 200 := by omega
              have hz7 : i < cs.length + 200 := by omega
              obtain ⟨bc, oc, rfl, k2⟩ := si_cell HC.out hlt
              obtain ⟨x, hx⟩ : ∃ x, cs[i] = x := ⟨_, rfl⟩
              have k1 := World.ownsRow.cells HX.out.1 (g := gf) rfl i _ (HX.out.2 i (Nat.le_refl _) hlt)
              rw [Addr.add_lit, Nat.zero_add, hx] at k1
              rw [hx] at k2
              have HK1 := Hid.of k1
              have HK2 := Hid.of (HD8.out.up.cell k2)
              clear k1 k2 hx
              go_wp2
              refine wp_region_held_drew (S := fun w2 => Up wr w2) (by kernel_rfl) (Up.refl _).drew (fun hS => ?_)
              refine wpAnyH_take (i := 0) (oi := { dst := some 72, op := Go.Op.move (Go.Operand.tmp 6), type := 23, pos := "outright.go:454", after := #[], guard := none }) (v := .slice (some ⟨gf, 0, none⟩) (cs.length + 200) c6) rfl (by kernel_rfl) (by kernel_rfl) (by kernel_rfl) (fun _ _ _ h => h) (Or.inl ⟨by kernel_rfl, ?_⟩) hS ?_
              · intro w5 hSw
                clear hSw hS
                go_simp
              simp only [Act.put, List.setIfInBounds_toArray, List.set_cons_zero, List.set_cons_succ]
              refine wpAnyH_take (i := 1) (oi := { dst := some 73, op := Go.Op.move (Go.Operand.tmp 10), type := 3, pos := "outright.go:454", after := #[], guard := none }) (v := .int .i64 (i : Int)) rfl (by kernel_rfl) (by kernel_rfl) (by kernel_rfl) (fun _ _ _ h => h) (Or.inl ⟨by kernel_rfl, ?_⟩) hS ?_
              · intro w5 hSw
                clear hSw hS
                go_simp
              simp only [Act.put, List.setIfInBounds_toArray, List.set_cons_zero, List.set_cons_succ]
              refine wpAnyH_take (i := 2) (oi := { dst := some 74, op := Go.Op.indexAddr 23 (Go.Operand.tmp 72) (Go.Operand.tmp 73), type := 0, pos := "outright.go:454", after := #[{ on := 0, ground := Go.Ground.data }, { on := 1, ground := Go.Ground.data }], guard := none }) (v := .pointer (some ⟨gf, i, none⟩)) rfl (by kernel_rfl) (by kernel_rfl) (by kernel_rfl) (fun _ _ _ h => h) (Or.inl ⟨by kernel_rfl, ?_⟩) hS ?_
              · intro w5 hSw
                clear hSw hS
                go_simp
              simp only [Act.put, List.setIfInBounds_toArray, List.set_cons_zero, List.set_cons_succ]
              refine wpAnyH_take (i := 3) (oi := { dst := some 75, op := Go.Op.load 3 (Go.Operand.tmp 74), type := 3, pos := "outright.go:454", after := #[{ on := 2, ground := Go.Ground.data }], guard := none }) (v := .int .i64 x) rfl (by kernel_rfl) (by kernel_rfl) (by kernel_rfl) (fun _ _ _ h => h) (Or.inl ⟨by kernel_rfl, ?_⟩) hS ?_
              · intro w5 hSw
                have h0 := hSw.cell HK1.out
                clear hSw hS
                go_simp
              simp only [Act.put, List.setIfInBounds_toArray, List.set_cons_zero, List.set_cons_succ]
              refine wpAnyH_take (i := 4) (oi := { dst := some 76, op := Go.Op.move (Go.Operand.tmp 1), type := 23, pos := "outright.go:454", after := #[], guard := none }) (v := .slice (some ⟨bc, oc, none⟩) cs.length cc) rfl (by kernel_rfl) (by kernel_rfl) (by kernel_rfl) (fun _ _ _ h => h) (Or.inl ⟨by kernel_rfl, ?_⟩) hS ?_
              · intro w5 hSw
                clear hSw hS
                go_simp
              simp only [Act.put, List.setIfInBounds_toArray, List.set_cons_zero, List.set_cons_succ]
              refine wpAnyH_take (i := 5) (oi := { dst := some 77, op := Go.Op.move (Go.Operand.tmp 10), type := 3, pos := "outright.go:454", after := #[], guard := none }) (v := .int .i64 (i : Int)) rfl (by kernel_rfl) (by kernel_rfl) (by kernel_rfl) (fun _ _ _ h => h) (Or.inl ⟨by kernel_rfl, ?_⟩) hS ?_
              · intro w5 hSw
                clear hSw hS
                go_simp
              simp only [Act.put, List.setIfInBounds_toArray, List.set_cons_zero, List.set_cons_succ]
              refine wpAnyH_take (i := 6) (oi := { dst := some 78, op := Go.Op.indexAddr 23 (Go.Operand.tmp 76) (Go.Operand.tmp 77), type := 0, pos := "outright.go:454", after := #[{ on := 4, ground := Go.Ground.data }, { on := 5, ground := Go.Ground.data }], guard := none }) (v := .pointer (some ⟨bc, oc + i, none⟩)) rfl (by kernel_rfl) (by kernel_rfl) (by kernel_rfl) (fun _ _ _ h => h) (Or.inl ⟨by kernel_rfl, ?_⟩) hS ?_
              · intro w5 hSw
                clear hSw hS
                go_simp
              simp only [Act.put, List.setIfInBounds_toArray, List.set_cons_zero, List.set_cons_succ]
              refine wpAnyH_take (i := 7) (oi := { dst := some 79, op := Go.Op.load 3 (Go.Operand.tmp 78), type := 3, pos := "outright.go:454", after := #[{ on := 6, ground := Go.Ground.data }], guard := none }) (v := .int .i64 x) rfl (by kernel_rfl) (by kernel_rfl) (by kernel_rfl) (fun _ _ _ h => h) (Or.inl ⟨by kernel_rfl, ?_⟩) hS ?_
              · intro w5 hSw
                have h0 := hSw.cell HK2.out
                clear hSw hS
                go_simp
              simp only [Act.put, List.setIfInBounds_toArray, List.set_cons_zero, List.set_cons_succ]
              refine wpAnyH_take (i := 8) (oi := { dst := some 80, op := Go.Op.binOp Go.BinOp.neq 3 (Go.Operand.tmp 75) (Go.Operand.tmp 79) 3, type := 4, pos := "outright.go:454", after := #[{ on := 3, ground := Go.Ground.data }, { on := 7, ground := Go.Ground.data }], guard := none }) (v := .bool false) rfl (by kernel_rfl) (by kernel_rfl) (by kernel_rfl) (fun _ _ _ h => h) (Or.inl ⟨by kernel_rfl, ?_⟩) hS ?_
              · intro w5 hSw
                clear hSw hS
                go_simp
              simp only [Act.put, List.setIfInBounds_toArray, List.set_cons_zero, List.set_cons_succ]
              have HSZ := Hid.of hS
              clear hS
              refine wpAnyH_done (by kernel_rfl) ?_ _
              have k1 := (HSZ.out).cell HK1.out
              have ht := World.ownsRow.frozenAt HX.out.1 i
              have htd : wr.drew.frozen? ⟨gf, i, none⟩ = false := ht
              obtain ⟨hst1, hst2⟩ := World.ownsRow.stored HX.out.1 i (.int .i64 (wrap64 (x + 1)))
              have hfr : Fr (fun k => k = gf) wr (wr.setCell ⟨gf, i, none⟩ (.int .i64 (wrap64 (x + 1)))).drew := ((Fr.refl (fun k => k = gf) wr).by hst2 (fun g hg => .inl (Option.some.inj hg).symm)).drew
              have HSt := Hid.of (show BK w (wr.setCell ⟨gf, i, none⟩ (.int .i64 (wrap64 (x + 1)))).drew D 601 (ddS s) ∧ BK w (wr.setCell ⟨gf, i, none⟩ (.int .i64 (wrap64 (x + 1)))).drew A 0 sa ∧ ∃ xs, (wr.setCell ⟨gf, i, none⟩ (.int .i64 (wrap64 (x + 1)))).drew.ownsRow w3.heap.size 3 1 (.slice (some ⟨gf, 0, none⟩) (cs.length + 200) c6) (cs.length + 200) xs ∧ ∀ k, i + 1 ≤ k → ∀ h : k < cs.length, xs[k]? = some (.int .i64 cs[k]) from ⟨HD8.out.fr hfr (fun k hk e => HGn.out.1 (e ▸ hk)) (fun k e => e ▸ HGw.out), HA8.out.fr hfr (fun k hk e => HGn.out.2 (e ▸ hk)) (fun k e => e ▸ HGw.out), _, ow_up hst1 (Up.refl _).drew, fun k hk h => by
                rw [List.getElem?_set, if_neg (by omega)]
                exact HX.out.2 k (by omega) h⟩)
              clear hst1 hst2 ht hfr
              go_wp2
              go_roundw
              all_goals first
                | exact ⟨i + 1, by go_num, by omega, Hid.of HSt.out⟩
                | (simp [intOf]; omega)
            · have hie : i = cs.length := by omega
              subst hie
              have hz : ¬ (cs.length : Int) < (cs.length : Int) := by omega
              have HCI := Hid.of (copiedInts_walk (.slice ac cs.length cc) cs wr (HC.out.up HD8.out.up) (by omega))
              clear hcells
              go_wp2_with fail
              refine HCI.out.mono ?_
              rintro e w8 ⟨v8, rfl, o8, u8⟩
              obtain ⟨a8, c8, rfl⟩ := row_len o8
              have HO8 := Hid.of o8
              have HD9 := Hid.of (HD8.out.upTo u8)
              have HA9 := Hid.of (HA8.out.upTo u8)
              have HDl := Hid.of (show D < wr.heap.size from lt_of_at HD8.out.ok.disk)
              clear o8 u8 HCI HD8 HA8 HX
              dsimp only
              have HCr := Hid.of (Crash_gen _ D _ 2097152 (ddS s) (.slice a8 cs.length c8) cs w8 HD9.out.ok (sint_own HO8.out) (fun g hg => by
                have h1 := World.ownsRow.lt HO8.out g hg
                have h2 := HDl.out
                omega) ((HIW.out.set s.acts s.unt s.flt true).cf (by omega)) (by have := HIV.out.2.2.2.1; show s.n0 + _ + _ ≤ _; omega) (by omega))
              go_wp2_with fail
              refine HCr.out.mono ?_
              rintro e w10 ⟨E, se, fs', gs', ws', w9, rfl, q1, q2, q3, q4, q5, q6, q7, q8, q9⟩
              have HL2 := Hid.of (LF.dd ⟨q4, q5, q6, q7, q8⟩)
              obtain ⟨F, hF⟩ : ∃ F, srF (lfs cs 1 gs ws) = F := ⟨_, rfl⟩
              have HF := Hid.of (show F.length ≤ 200 ∧ (F.map Prod.fst).Nodup ∧ (∀ p ∈ F, p.2.length ≤ 2097152) ∧ srF (lfs cs 1 gs' ws') = F from ⟨by
                rw [← hF, (srF_perm HLF.out.ndl).length_eq, lfs_len]
                have h1 := HLF.out.len HIV.out.1
                have h2 := HIV.out.2.2.2.2.2
                omega, by rw [← hF]; exact srF_nd HLF.out.ndl, by rw [← hF]; exact HLF.out.leX HIV.out.1, by
                rw [← hF]
                exact (LF.same (Sm.refl s) HIV.out.2.1 HIV.out.2.2.1 HD9.out.ok.nD HLF.out HL2.out).symm⟩)
              have HhF := Hid.of hF
              have HFa := Hid.of (show fsOf sa.nf = F ∧ sa.dead = false ∧ sa.chs.length + lsd (fls sa) = 0 from ⟨HA7.out.2.2.1.trans hF, HA7.out.2.2.2⟩)
              have HFe := Hid.of (show fsOf se.nf = F ∧ se.dead = false ∧ se.acts = 0 ∧ se.unt = 0 ∧ se.room = 1099511627776 from ⟨by rw [q3.fs]; exact (congrArg srF q9).trans HF.out.2.2.2, q3.st.1, q3.st.2.2.2.2.2.2.1, q3.st.2.1, q3.st.2.2.1.trans HIV.out.2.2.2.2.1⟩)
              have HT := Hid.of (show T3 w w10 D A E 602 0 0 (ddS s) sa se from by
                have hf : Fr (fun k => k = D) w8 w10 := q1.up q3.up
                have hlo : ∀ k, (fun k => k = D) k → w.heap.size ≤ k := fun k hk => by
                  obtain rfl : k = D := hk
                  exact HD9.out.lo k (.inl rfl)
                refine ⟨HD9.out.chg ((HD9.out.ok.died q1 q2 (by omega)).up q3.up) (hf.weak (fun _ hb => hb ▸ .inl rfl)) (fun _ hb => .inl hb), HA9.out.fr hf (fun k hk e => HA7.out.2.1 D (.inl rfl) (e ▸ hk)) hlo, q3.bk (up_fr HD9.out.up hlo q1) HV.out, HA7.out.2.1, fun k hk he => ?_, fun k hk he => ?_⟩
                · have h1 := HD9.out.ok.lt hk
                  have h2 := q3.lo k he
                  have h3 := q1.size
                  omega
                · have h1 := HA9.out.ok.lt hk
                  have h2 := q3.lo k he
                  have h3 := q1.size
                  omega)
              clear q1 q2 q3 q4 q5 q6 q7 q8 q9 HCr HD9 HA9 HO8 HL2 hF HA7 HDl
              have hpE : ∀ w', (binOp .eql 24 (.pointer (some ⟨E, 0, none⟩)) (.pointer none)).run Tryz.prog w' = .ok (.bool false) w' := fun w' => by kernel_rfl
              dsimp only
              have HNa := Hid.of (show sa.nf.length ≤ 200 by rw [← fsOf_len, HFa.out.1]; exact HF.out.1)
              have HNe := Hid.of (show se.nf.length ≤ 200 by rw [← fsOf_len, HFe.out.1]; exact HF.out.1)
              have HUd := Hid.of (usd_le HT.out.e.ok.nd HNe.out (fun p hp => HF.out.2.2.1 p (by rw [← HFe.out.1]; exact hp)))
              have HF1 := Hid.of (Files_gen w10 HT.out.a.ok HFa.out.2.1 (by have := HNa.out; omega))
              go_wp2_with fail
              refine HF1.out.mono ?_
              rintro e w11 ⟨a11, f11, c11, rfl, o11, u11, e11⟩
              have HO11 := Hid.of (show FsO w11 w10.heap.size a11 f11 c11 ∧ f11.map pr = F from ⟨o11, (show f11.map pr = fsOf sa.nf from e11).trans HFa.out.1⟩)
              have HT11 := Hid.of (HT.out.upTo u11)
              clear o11 u11 e11 HF1 HT
              dsimp only
              have HF1 := Hid.of (Files_gen w11 HT11.out.e.ok HFe.out.2.1 (by have := HNe.out; omega))
              go_wp2_with fail
              refine HF1.out.mono ?_
              rintro e w12 ⟨a12, f12, c12, rfl, o12, u12, e12⟩
              have HO12 := Hid.of (show FsO w12 w11.heap.size a12 f12 c12 ∧ FsO w12 w10.heap.size a11 f11 c11 ∧ f11.map pr = f12.map pr from ⟨o12, HO11.out.1.up u12, HO11.out.2.trans ((show f12.map pr = fsOf se.nf from e12).trans HFe.out.1).symm⟩)
              have HT12 := Hid.of (HT11.out.upTo u12)
              have HLn := Hid.of (show f11.length ≤ 1099511627776 by
                have h5 := congrArg List.length HO11.out.2
                rw [List.length_map] at h5
                have := HF.out.1
                omega)
              clear o12 u12 e12 HF1 HT11 HO11
              dsimp only
              go_wp2_with fail
              refine (sameFiles_yes a11 a12 f11 f12 c11 c12 w12 HO12.out.2.1.fsl HO12.out.1.fsl HO12.out.2.2 HLn.out).mono ?_
              rintro e w13 ⟨rfl, u13⟩
              have HT13 := Hid.of (HT12.out.upTo u13)
              clear u13 HT12 HO12 HLn
              dsimp only
              have HPe := Pending_gen w13 HT13.out.a.ok
              rw [HFa.out.2.2] at HPe
              have HPe2 := Hid.of HPe
              clear HPe
              go_wp2_with fail
              refine HPe2.out.mono ?_
              rintro e w14 ⟨rfl, u14⟩
              have HT14 := Hid.of (HT13.out.upTo u14)
              clear u14 HT13 HPe2
              dsimp only
              have HAc := Acts_gen w14 HT14.out.e.ok
              rw [HFe.out.2.2.1] at HAc
              have HAc2 := Hid.of HAc
              clear HAc
              go_wp2_with fail
              refine HAc2.out.mono ?_
              rintro e w15 ⟨rfl, h15⟩
              obtain rfl := h15.symm
              clear h15 HAc2
              dsimp only
              have HF1 := Hid.of (Files_gen w14 HT14.out.a.ok HFa.out.2.1 (by have := HNa.out; omega))
              go_wp2_with fail
              refine HF1.out.mono ?_
              rintro e w15 ⟨a15, f15, c15, rfl, o15, u15, e15⟩
              have HO15 := Hid.of (show FsO w15 w14.heap.size a15 f15 c15 ∧ f15.map pr = F from ⟨o15, (show f15.map pr = fsOf sa.nf from e15).trans HFa.out.1⟩)
              have HT15 := Hid.of (HT14.out.upTo u15)
              have HOw := Hid.of (show (∀ k, own D (ddS s) k ∨ own A sa k → k < w15.heap.size) ∧ (∀ k, own E se k → k < w15.heap.size) ∧ w.heap.size ≤ w15.heap.size from ⟨fun k hk => hk.elim (fun q => HT15.out.d.ok.lt q) (fun q => HT15.out.a.ok.lt q), fun k hk => HT15.out.e.ok.lt hk, HT15.out.d.up.size⟩)
              clear o15 u15 e15 HF1 HT14
              dsimp only
              go_wp2_with fail
              refine (copies_walk a15 c15 f15 w15 HO15.out.1.fsl (by
                have h5 := congrArg List.length HO15.out.2
                rw [List.length_map] at h5
                have := HF.out.1
                omega) (fun g hg => by
                have h5 : pr g ∈ F := by rw [← HO15.out.2]; exact List.mem_map_of_mem hg
                have h6 : g.ds.length ≤ 2097152 := HF.out.2.2.1 _ h5
                omega)).mono ?_
              rintro e w16 ⟨a16, f16, c16, rfl, o16, u16, e16⟩
              have HBf := Hid.of (show FsO w16 w15.heap.size a16 f16 c16 ∧ f16.map pr = F ∧ f16.length = F.length from ⟨o16, (show f16.map pr = f15.map pr from e16).trans HO15.out.2, by
                have h5 := congrArg List.length ((show f16.map pr = f15.map pr from e16).trans HO15.out.2)
                rw [List.length_map] at h5
                exact h5⟩)
              have HT16 := Hid.of (HT15.out.upTo u16)
              have HSz := Hid.of (show w15.heap.size ≤ w16.heap.size from u16.size)
              clear o16 u16 e16 HO15 HT15
              dsimp only
              have HF1 := Hid.of (Files_own w16 HT16.out.e.ok HFe.out.2.1 (by have := HNe.out; omega))
              go_wp2_with fail
              refine HF1.out.mono ?_
              rintro e w17 ⟨a17, f17, c17, rfl, o17, p17, u17, e17⟩
              have HTd := Hid.of (show FsO w17 w16.heap.size a17 f17 c17 ∧ PWf f17 ∧ Up w16 w17 ∧ f17.map pr = F from ⟨o17, p17, u17, (show f17.map pr = fsOf se.nf from e17).trans HFe.out.1⟩)
              obtain ⟨m, hm⟩ : ∃ m, f17.length = m := ⟨_, rfl⟩
              have HM := Hid.of (show f17.length = m ∧ m ≤ 200 ∧ F.length = m from ⟨hm, by
                have h5 := congrArg List.length HTd.out.2.2.2
                rw [List.length_map] at h5
                have := HF.out.1
                omega, by
                have h5 := congrArg List.length HTd.out.2.2.2
                rw [List.length_map] at h5
                omega⟩)
              have hm200 : m ≤ 200 := HM.out.2.1
              have hcap17 : m ≤ c17 := by rw [← hm]; exact o17.fsl.cap
              rw [hm]
              clear o17 p17 u17 e17 HF1 hm
              dsimp only
              have HTs := Hid.of (show TS w16 w17 a17 c17 m 0 f17 from ⟨HTd.out.1, HTd.out.2.1, HTd.out.2.2.1, HM.out.1, fun k hk => by
                have h5 : pr f17[k] ∈ F := by rw [← HTd.out.2.2.2]; exact List.mem_map_of_mem (List.getElem_mem hk)
                exact HF.out.2.2.1 _ h5, fun k hk h => by omega⟩)
              clear HTd
              go_wp2
              go_loopw [14, 15] (fun v14 _ wr => ∃ i : Nat, v14 = .int .i64 (i : Int) ∧ i ≤ m ∧ Hid (∃ fs, TS w16 wr a17 c17 m i fs)) (fun v14 _ _ => m - (intOf v14).toNat)
              case atStart => exact ⟨0, rfl, by omega, Hid.of ⟨_, HTs.out⟩⟩
              case round =>
                obtain ⟨i, rfl, hi, hQ⟩ := hrel
                obtain ⟨ft, hts⟩ := hQ.out
                have HTs := Hid.of hts
                clear hQ hts
                by_cases hlt : i < m
                · have hz : (i : Int) < (m : Int) := by omega
                  have hif : i < ft.length := by rw [HTs.out.ln]; exact hlt
                  obtain ⟨ga, hga, _, _, _, _⟩ := HTs.out.fo.some hif
                  subst hga
                  have hmod : (i : Int).tmod 200 = (i : Int) := Int.tmod_eq_of_lt (by omega) (by omega)
                  have hmk : vb (mkB i) = .int .u8 ((i : Int) + 1) := by
                    unfold vb
                    rw [mkB_val, Nat.mod_eq_of_lt (by omega)]
                    rfl
                  have HMk := Hid.of hmk
                  clear hmk
                  go_wp2
                  go_loopw [15] (fun v15 wr => ∃ j : Nat, v15 = .int .i64 (j : Int) ∧ Hid (∃ fs, TS w16 wr (some ⟨ga, 0, none⟩) c17 m i fs ∧ ∃ h : i < fs.length, j ≤ fs[i].ds.length ∧ fs[i].ds.length = ft[i].ds.length ∧ ∀ t, t < j → fs[i].ds[t]? = some (mkB i))) (fun v15 _ => ft[i].ds.length - (intOf v15).toNat)
                  case atStart => exact ⟨0, rfl, Hid.of ⟨_, HTs.out, hif, Nat.zero_le _, rfl, fun t ht => by omega⟩⟩
                  case round =>
                    obtain ⟨j, rfl, hQ⟩ := hrel
                    obtain ⟨fs, h1, h2, h3, h4, h5⟩ := hQ.out
                    have HT2 := Hid.of h1
                    have HJ := Hid.of (And.intro h3 (And.intro h4 h5))
                    have hlen := h1.sz i h2
                    obtain ⟨ga', e, hga2, kn, kv, hfz⟩ := h1.fo.some h2
                    obtain rfl : ga = ga' := by
                      injection e with e
                      injection e
                    clear hQ h1 h3 h4 h5 e
                    by_cases hj : j < fs[i].ds.length
                    · obtain ⟨g, cg, hv, hcg, hg, kb, hfz2⟩ := ow_some (HT2.out.fo.dat _ (List.getElem_mem h2)) hj
                      obtain ⟨n, hn⟩ : ∃ n, fs[i].ds.length = n := ⟨_, rfl⟩
                      rw [hv, hn] at kv
                      have HV2 := Hid.of hv
                      have HNn := Hid.of hn
                      rw [hn] at hj hcg hlen
                      have hjz : (j : Int) < (n : Int) := by omega
                      have hcgz : (n : Int) ≤ (cg : Int) := by omega
                      obtain ⟨bv, hbv⟩ : ∃ bv, vb fs[i].ds[j] = bv := ⟨_, rfl⟩
                      rw [hbv] at kb
                      clear hbv hv hn hfz
                      clear kn
                      have HT3 := Hid.of (show ∃ fs', TS w16 (wr.setCell ⟨g, j, none⟩ (.int .u8 ((i : Int) + 1))) (some ⟨ga, 0, none⟩) c17 m i fs' ∧ ∃ h' : i < fs'.length, j + 1 ≤ fs'[i].ds.length ∧ fs'[i].ds.length = ft[i].ds.length ∧ ∀ t, t < j + 1 → fs'[i].ds[t]? = some (mkB i) from by
                        rw [← HMk.out]
                        exact HT2.out.inner h2 HV2.out (by rw [HNn.out]; exact hj) HJ.out.2.1 HJ.out.2.2)
                      have HJL := Hid.of (show j < ft[i].ds.length by rw [← HJ.out.2.1, HNn.out]; exact hj)
                      go_wp2
                      go_roundw
                      case rel => exact ⟨j + 1, by go_num, Hid.of HT3.out⟩
                      case measure =>
                        have := HJL.out
                        simp [intOf]
                        omega
                    · obtain ⟨av, cv, hv⟩ := row_len (HT2.out.fo.dat _ (List.getElem_mem h2))
                      obtain ⟨n, hn⟩ : ∃ n, fs[i].ds.length = n := ⟨_, rfl⟩
                      rw [hv, hn] at kv
                      have HN2 := Hid.of (show TS w16 (wr.setCell ⟨ga, i * 2, none⟩ (.string ⟨#[35]⟩)) (some ⟨ga, 0, none⟩) c17 m (i + 1) (fs.set i ⟨⟨#[35]⟩, fs[i].v, fs[i].ds⟩) from HT2.out.name h2 (fun t ht => HJ.out.2.2 t (by omega)))
                      rw [hn] at hj
                      have hjz : ¬ (j : Int) < (n : Int) := by omega
                      clear hv hn
                      go_wp2
                      go_roundw
                      all_goals first
                        | exact ⟨i + 1, by go_num, by omega, Hid.of ⟨_, HN2.out⟩⟩
                        | (simp [intOf]; omega)
                · have hie : m = i := by omega
                  subst hie
                  have hz : ¬ (m : Int) < (m : Int) := by omega
                  have HMs := Hid.of (show MS w16 wr a17 c17 m 0 ft none 0 [] from ⟨HTs.out, rfl, World.ownsRow_nil _ _ _ _, (fun k hk => by cases hk), (fun k hk => by cases hk)⟩)
                  have hlft : ft.length = m := HTs.out.ln
                  have HLft := Hid.of hlft
                  clear HTs hlft
                  go_wp2
                  go_loopw [16, 17] (fun v16 v17 wr => ∃ i : Nat, v17 = .int .i64 (i : Int) ∧ i ≤ m ∧ ∃ a6 c6, v16 = .slice a6 i c6 ∧ Hid (∃ vs, MS w16 wr a17 c17 m i ft a6 c6 vs)) (fun _ v17 _ => m - (intOf v17).toNat)
                  case atStart => exact ⟨0, rfl, by omega, none, 0, rfl, Hid.of ⟨_, HMs.out⟩⟩
                  case round =>
                    obtain ⟨i, rfl, hi, a6, c6', rfl, hQ⟩ := hrel
                    obtain ⟨vs, hms⟩ := hQ.out
                    have HMs := Hid.of hms
                    clear hQ hms
                    by_cases hlt : i < m
                    · have hz : (i : Int) < (m : Int) := by omega
                      have hif : i < ft.length := by rw [HLft.out]; exact hlt
                      obtain ⟨ga, hga, hga2, kn, kv, hfz⟩ := HMs.out.ts.fo.some hif
                      subst hga
                      have hmod : (i : Int).tmod 200 = (i : Int) := Int.tmod_eq_of_lt (by omega) (by omega)
                      have HMk := Hid.of (show vb (mkB i) = .int .u8 ((i : Int) + 1) by
                        unfold vb
                        rw [mkB_val, Nat.mod_eq_of_lt (by omega)]
                        rfl)
                      obtain ⟨av, cv, hv⟩ := row_len (HMs.out.ts.fo.dat _ (List.getElem_mem hif))
                      obtain ⟨n, hn⟩ : ∃ n, ft[i].ds.length = n := ⟨_, rfl⟩
                      have hnl : n ≤ 2097152 := by rw [← hn]; exact HMs.out.ts.sz i hif
                      rw [hn] at hv
                      rw [hv] at kv
                      have HNv := Hid.of (And.intro hn hv)
                      have HRw := Hid.of (show wr.ownsRow w16.heap.size 5 1 (.slice av n cv) n (cb ft[i].ds) by
                        have h5 := HMs.out.ts.fo.dat _ (List.getElem_mem hif)
                        unfold Ow at h5
                        rw [hv, hn] at h5
                        exact h5)
                      clear hn hv hga2 kn hfz
                      go_wp2_with (with_reducible show wpList _ _ _ ({ dst := _, op := Op.call { callee := Callee.builtin Builtin.append, args := _, argTypes := _ }, type := _, pos := _, after := _, guard := _ } :: _) _ _; refine Shut.out ?_)
                      show wpList _ _ _ _ _ _
                      rw [← HMk.out]
                      refine wpList_appB (w := wr) (N := w16.heap.size) (q := n) rfl _ _ rfl av cv ft[i].ds (mkB i) rfl rfl HRw.out HMs.out.ts.up.size (by omega) ?_
                      intro ax2 cx2 w8 o8 p8 g8 b8
                      have HS1 := Hid.of (HMs.out.step1 hif HNv.out.1 o8 (by rw [HNv.out.2]; exact p8) (by rw [HNv.out.2]; exact g8) (by rw [HNv.out.2]; exact b8))
                      clear o8 p8 g8 b8
                      simp only [Act.put, List.setIfInBounds_toArray, List.set_cons_zero, List.set_cons_succ]
                      go_wp2_with (with_reducible show wpList _ _ _ ({ dst := _, op := Op.call { callee := Callee.builtin Builtin.append, args := _, argTypes := _ }, type := _, pos := _, after := _, guard := _ } :: _) _ _; refine Shut.out ?_)
                      show wpList _ _ _ _ _ _
                      obtain ⟨j0, hj0, hy0, hy1, hy2⟩ := info_parts Tryz.infoSl1
                      refine wpList_append_frs rfl _ _ 64 rfl w16.heap.size 41 j0 (.slice none 0 0) 24 Tryz.underlying64 hj0 hy0 hy1 hy2 rfl (.slice a6 i c6') i vs rfl (ow_up HS1.out.1.row ((Up.refl w8).alloc (.cells [.slice ax2 (n + 1) cx2].toArray 41))) ⟨w8.heap.size, 0, none⟩ 1 1 [.slice ax2 (n + 1) cx2] rfl rfl ?_ ?_ (by simp only [maxLen]; omega) (by omega) (by have := HS1.out.1.ts.up.size; rw [alloc_size]; omega) ?_
                      · intro j u hu
                        rw [Addr.add_lit]
                        exact At.cell (at_new w8 41 [.slice ax2 (n + 1) cx2]) (i := 0 + j) (by rw [Nat.zero_add]; exact hu)
                      · intro u hu
                        obtain rfl := List.mem_singleton.1 hu
                        rfl
                      intro v9 w9 o9 g9 f9
                      obtain ⟨a9, c9, rfl⟩ := row_len o9
                      have HS2 := Hid.of (show MS w16 w9 (some ⟨ga, 0, none⟩) c17 m (i + 1) ft a9 c9 (vs ++ [.slice ax2 (n + 1) cx2]) from HS1.out.1.step2 hif (by rw [HNv.out.1]; exact HS1.out.2.1) HS1.out.2.2 o9 (up_grown ((Up.refl w8).alloc (.cells [.slice ax2 (n + 1) cx2].toArray 41)) g9))
                      clear o9 g9 f9
                      simp only [Act.put, List.setIfInBounds_toArray, List.set_cons_zero, List.set_cons_succ]
                      go_wp2
                      go_roundw
                      all_goals first
                        | exact ⟨i + 1, by go_num, by omega, a9, c9, rfl, Hid.of ⟨_, HS2.out⟩⟩
                        | (simp [intOf]; omega)
                    · have hie : m = i := by omega
                      subst hie
                      have hz : ¬ (m : Int) < (m : Int) := by omega
                      obtain ⟨w40, hw40⟩ : ∃ w40, w40 = wr := ⟨_, rfl⟩
                      have HM4 := Hid.of (show MS w16 w40 a17 c17 m m ft a6 c6' vs from hw40 ▸ HMs.out)
                      clear HMs
                      subst hw40
                      go_wp2
                      go_loopw [18, 19] (fun v18 _ wr => ∃ i : Nat, v18 = .int .i64 (i : Int) ∧ i ≤ m ∧ Hid (wr = w40)) (fun v18 _ _ => m - (intOf v18).toNat)
                      case atStart => exact ⟨0, rfl, by omega, Hid.of rfl⟩
                      case round =>
                        obtain ⟨i, rfl, hi, hQ⟩ := hrel
                        obtain rfl := hQ.out
                        clear hQ
                        by_cases hlt : i < m
                        · have hz : (i : Int) < (m : Int) := by omega
                          have hif : i < ft.length := by rw [HLft.out]; exact hlt
                          have hiv : i < vs.length := by rw [HM4.out.ln]; exact hlt
                          obtain ⟨ga, hga, _, _, kv, _⟩ := HM4.out.ts.fo.some hif
                          subst hga
                          have hmod : (i : Int).tmod 200 = (i : Int) := Int.tmod_eq_of_lt (by omega) (by omega)
                          have HMk := Hid.of (show vb (mkB i) = .int .u8 ((i : Int) + 1) by
                            unfold vb
                            rw [mkB_val, Nat.mod_eq_of_lt (by omega)]
                            rfl)
                          obtain ⟨n, hn⟩ : ∃ n, ft[i].ds.length = n := ⟨_, rfl⟩
                          have hnl : n ≤ 2097152 := by rw [← hn]; exact HM4.out.ts.sz i hif
                          have hel := HM4.out.el i hiv hif
                          have hds := HM4.out.ts.dn i hif hlt
                          have hdt := HM4.out.ts.fo.dat _ (List.getElem_mem hif)
                          obtain ⟨av, cv, hv⟩ := row_len hdt
                          rw [hn] at hel hds hv
                          rw [hv] at kv
                          have hgm : ∃ gm, a6 = some ⟨gm, 0, none⟩ ∧ wr.cell? ⟨gm, i, none⟩ = some vs[i] := by
                            rcases HM4.out.row.2 with ⟨_, h0⟩ | ⟨g, cap, cur, e, _⟩
                            · omega
                            · injection e with e1 _ _
                              subst e1
                              have h5 := World.ownsRow.cells HM4.out.row (g := g) rfl i _ (List.getElem?_eq_getElem hiv)
                              rw [Addr.add_lit, Nat.zero_add] at h5
                              exact ⟨g, rfl, h5⟩
                          obtain ⟨gm, hgm1, km⟩ := hgm
                          subst hgm1
                          have hcm : m ≤ c6' := by
                            rcases HM4.out.row.2 with ⟨_, h0⟩ | ⟨g, cap, cur, e, _, _, hnc, _⟩
                            · omega
                            · injection e with _ _ e3
                              omega
                          have hcmz : (m : Int) ≤ (c6' : Int) := by omega
                          obtain ⟨gv, cgv, hvs, hcgv, _, _, _⟩ := ow_some hel (j := 0) (by rw [List.length_replicate]; omega)
                          rw [List.length_replicate] at hvs hcgv
                          rw [hvs] at km
                          have hcgz : (n : Int) + 1 ≤ (cgv : Int) := by omega
                          have HEl := Hid.of (show ∀ j, j < n + 1 → wr.cell? ⟨gv, j, none⟩ = some (.int .u8 ((i : Int) + 1)) from fun j hj => by
                            obtain ⟨g', c', e', _, _, k', _⟩ := ow_some hel (j := j) (by rw [List.length_replicate]; omega)
                            rw [hvs] at e'
                            injection e' with e1
                            injection e1 with e1
                            injection e1 with e1
                            subst e1
                            rw [k', List.getElem_replicate, HMk.out])
                          have HDt := Hid.of (show ∀ j, j < n → ∃ gt, av = some ⟨gt, 0, none⟩ ∧ n ≤ cv ∧ wr.cell? ⟨gt, j, none⟩ = some (.int .u8 ((i : Int) + 1)) from fun j hj => by
                            obtain ⟨g', c', e', hc', _, k', _⟩ := ow_some hdt (j := j) (by rw [hn]; exact hj)
                            rw [hv] at e'
                            injection e' with e1 e2 e3
                            subst e1
                            rw [hn] at hc'
                            refine ⟨g', rfl, by omega, ?_⟩
                            rw [k', ← HMk.out]
                            congr 2
                            have h6 : ft[i].ds[j]? = some (mkB i) := by rw [hds, List.getElem?_replicate, if_pos hj]
                            rw [List.getElem?_eq_getElem (by rw [hn]; exact hj)] at h6
                            exact Option.some.inj h6)
                          have HHn := Hid.of hn
                          clear hel hds hdt hv hvs
                          go_wp2
                          go_loopw [19] (fun v19 wr2 => ∃ j : Nat, v19 = .int .i64 (j : Int) ∧ j ≤ n + 1 ∧ Hid (wr2 = wr)) (fun v19 _ => n + 1 - (intOf v19).toNat)
                          case atStart => exact ⟨0, rfl, by omega, Hid.of rfl⟩
                          case round =>
                            obtain ⟨j, rfl, hj, hQ⟩ := hrel
                            obtain rfl := hQ.out
                            clear hQ
                            by_cases hjn : j < n
                            · have hjz : (j : Int) < (n : Int) + 1 := by omega
                              have hjz2 : (j : Int) < (n : Int) := by omega
                              have kj := HEl.out j (by omega)
                              obtain ⟨gt, hgt, hcv, kd⟩ := HDt.out j hjn
                              subst hgt
                              have hcvz : (n : Int) ≤ (cv : Int) := by omega
                              go_wp2
                              go_roundw
                              all_goals first
                                | exact ⟨j + 1, by go_num, by omega, Hid.of trivial⟩
                                | (simp [intOf]; omega)
                            · by_cases hje : j = n
                              · subst hje
                                have hjz : (j : Int) < (j : Int) + 1 := by omega
                                have hjz2 : ¬ (j : Int) < (j : Int) := by omega
                                have kj := HEl.out j (by omega)
                                go_wp2
                                go_roundw
                                all_goals first
                                  | exact ⟨j + 1, by go_num, by omega, Hid.of trivial⟩
                                  | (simp [intOf]; done)
                              · have hje2 : j = n + 1 := by omega
                                subst hje2
                                have hjz : ¬ ((n : Int) + 1) < (n : Int) + 1 := by omega
                                go_wp2
                                go_roundw
                                all_goals first
                                  | exact ⟨i + 1, by go_num, by omega, Hid.of trivial⟩
                                  | (simp [intOf]; omega)
                        · have hie : m = i := by omega
                          subst hie
                          have hz : ¬ (m : Int) < (m : Int) := by omega
                          have HT40 := Hid.of (HT16.out.upTo HM4.out.ts.up)
                          have HBf4 := Hid.of (show FsO wr w15.heap.size a16 f16 c16 ∧ f16.map pr = F ∧ f16.length = m from ⟨HBf.out.1.up HM4.out.ts.up, HBf.out.2.1, HBf.out.2.2.trans HM.out.2.2⟩)
                          have HSz4 := Hid.of (Nat.le_trans HSz.out HM4.out.ts.up.size)
                          obtain ⟨w40, hw40⟩ : ∃ w40, w40 = wr := ⟨_, rfl⟩
                          clear HM4 HBf HT16
                          rw [← hw40] at HT40 HBf4 HSz4 ⊢
                          clear hw40
                          have h16 : f16.length = m := HBf4.out.2.2
                          rw [h16]
                          have HH16 := Hid.of h16
                          clear h16
                          have HLi := Hid.of (List_dd ⟨#[]⟩ w40 HT40.out.e.ok HFe.out.2.1)
                          go_wp2_with fail
                          refine HLi.out.mono ?_
                          rintro e w41 ⟨v41, rfl, o41, u41⟩
                          have HLs := Hid.of (show lsN se.nf (⟨#[]⟩ : ByteArray).data.toList = F.map Prod.fst by
                            rw [show (⟨#[]⟩ : ByteArray).data.toList = [] from rfl, lsN_all, ← fsOf_fst, HFe.out.1])
                          rw [HLs.out] at o41
                          obtain ⟨a41, c41, rfl⟩ := row_len o41
                          have hlm : (F.map Prod.fst).length = m := by rw [List.length_map, HM.out.2.2]
                          unfold OwS at o41
                          rw [hlm] at o41 ⊢
                          have HN41 := Hid.of (show ∃ xs, w41.ownsRow w40.heap.size 9 1 (.slice a41 m c41) m xs ∧ Up w40 w41 ∧ ∀ k, k < 0 → xs[k]? = some (.string ⟨#[35]⟩) from ⟨_, o41, u41, fun k hk => by omega⟩)
                          have hc41 : m ≤ c41 := by
                            rcases o41.2 with ⟨e1, h0⟩ | ⟨g, cap, cur, e, _, _, hnc, _⟩
                            · omega
                            · injection e with _ _ e3
                              omega
                          have hc41z : (m : Int) ≤ (c41 : Int) := by omega
                          clear o41 u41 HLi hlm
                          dsimp only
                          go_wp2
                          go_loopw [21] (fun v21 wr => ∃ i : Nat, v21 = .int .i64 (i : Int) ∧ i ≤ m ∧ Hid (∃ xs, wr.ownsRow w40.heap.size 9 1 (.slice a41 m c41) m xs ∧ Up w40 wr ∧ ∀ k, k < i → xs[k]? = some (.string ⟨#[35]⟩))) (fun v21 _ => m - (intOf v21).toNat)
                          case atStart => exact ⟨0, rfl, by omega, HN41⟩
                          case round =>
                            obtain ⟨i, rfl, hi, hQ⟩ := hrel
                            obtain ⟨xs, hx⟩ := hQ.out
                            have HX := Hid.of hx
                            clear hQ hx HN41
                            by_cases hlt : i < m
                            · have hz : (i : Int) < (m : Int) := by omega
                              obtain ⟨gn, hgn⟩ : ∃ gn, a41 = some ⟨gn, 0, none⟩ := by
                                rcases HX.out.1.2 with ⟨_, h0⟩ | ⟨g, cap, cur, e, _⟩
                                · omega
                                · injection e with e1 _ _
                                  exact ⟨g, e1⟩
                              subst hgn
                              have hxl : i < xs.length := by have := HX.out.1.1; omega
                              have k1 := World.ownsRow.cells HX.out.1 (g := gn) rfl i _ (List.getElem?_eq_getElem hxl)
                              rw [Addr.add_lit, Nat.zero_add] at k1
                              have ht := World.ownsRow.frozenAt HX.out.1 i
                              obtain ⟨hst1, hst2⟩ := World.ownsRow.stored HX.out.1 i (.string ⟨#[35]⟩)
                              have HSt := Hid.of (show ∃ xs, (wr.setCell ⟨gn, i, none⟩ (.string ⟨#[35]⟩)).ownsRow w40.heap.size 9 1 (.slice (some ⟨gn, 0, none⟩) m c41) m xs ∧ Up w40 (wr.setCell ⟨gn, i, none⟩ (.string ⟨#[35]⟩)) ∧ ∀ k, k < i + 1 → xs[k]? = some (.string ⟨#[35]⟩) from ⟨_, hst1, up_grownBy HX.out.2.1 hst2 (fun k hk => by
                                have h1 := (World.ownsRow.lt HX.out.1 gn rfl).1
                                have h2 := Option.some.inj hk
                                omega), fun k hk => by
                                rw [List.getElem?_set]
                                by_cases hki : i = k
                                · rw [if_pos hki, if_pos hxl]
                                · rw [if_neg hki]
                                  exact HX.out.2.2 k (by omega)⟩)
                              obtain ⟨u0, hu0⟩ : ∃ u0, xs[i] = u0 := ⟨_, rfl⟩
                              rw [hu0] at k1
                              clear hst1 hst2 hu0
                              go_wp2
                              go_roundw
                              all_goals first
                                | exact ⟨i + 1, by go_num, by omega, HSt⟩
                                | (simp [intOf]; omega)
                            · have hie : m = i := by omega
                              subst hie
                              have hz : ¬ (m : Int) < (m : Int) := by omega
                              obtain ⟨s0, hs0, hs1, hs2, hs3⟩ := info_parts Tryz.infoStr
                              go_wp2_with (with_reducible show wpList _ _ _ ({ dst := _, op := Op.call { callee := Callee.builtin Builtin.append, args := _, argTypes := _ }, type := _, pos := _, after := _, guard := _ } :: _) _ _; refine Shut.out ?_)
                              show wpList _ _ _ _ _ _
                              refine wpList_append_frs rfl _ _ 29 rfl w40.heap.size 9 s0 (.string ⟨#[]⟩) 16 Tryz.underlying29 hs0 hs1 hs2 hs3 rfl (.slice a41 m c41) m xs rfl (ow_up HX.out.1 ((Up.refl wr).alloc (.cells [.string ⟨#[35, 35]⟩].toArray 9))) ⟨wr.heap.size, 0, none⟩ 1 1 [.string ⟨#[35, 35]⟩] rfl rfl ?_ ?_ (by simp only [maxLen]; omega) (by omega) (by have := HX.out.2.1.size; rw [alloc_size]; omega) ?_
                              · intro j u hu
                                rw [Addr.add_lit]
                                exact At.cell (at_new wr 9 [.string ⟨#[35, 35]⟩]) (i := 0 + j) (by rw [Nat.zero_add]; exact hu)
                              · intro u hu
                                obtain rfl := List.mem_singleton.1 hu
                                rfl
                              intro v43 w43 o43 g43 f43
                              obtain ⟨a43, c43, rfl⟩ := row_len o43
                              have HNm := Hid.of (show w43.ownsRow w40.heap.size 9 1 (.slice a43 (m + 1) c43) (m + 1) (xs ++ [.string ⟨#[35, 35]⟩]) ∧ Up w40 w43 ∧ ∀ k, k < m → (xs ++ [.string ⟨#[35, 35]⟩])[k]? = some (.string ⟨#[35]⟩) from ⟨o43, up_grownBy (HX.out.2.1.trans ((Up.refl wr).alloc (.cells [.string ⟨#[35, 35]⟩].toArray 9))) g43 (fun k hk => (World.ownsRow.lt HX.out.1 k hk).1), fun k hk => by
                                have h5 : xs.length = m * 1 := HX.out.1.1
                                rw [List.getElem?_append_left (by omega)]
                                exact HX.out.2.2 k hk⟩)
                              clear o43 g43 f43
                              simp only [Act.put, List.setIfInBounds_toArray, List.set_cons_zero, List.set_cons_succ]
                              have HT43 := Hid.of (HT40.out.upTo HNm.out.2.1)
                              have HF1 := Hid.of (Files_gen w43 HT43.out.e.ok HFe.out.2.1 (by have := HNe.out; omega))
                              go_wp2_with fail
                              refine HF1.out.mono ?_
                              rintro e w44 ⟨a44, f44, c44, rfl, o44, u44, e44⟩
                              have HO44 := Hid.of (show FsO w44 w43.heap.size a44 f44 c44 ∧ f44.map pr = f16.map pr from ⟨o44, ((show f44.map pr = fsOf se.nf from e44).trans HFe.out.1).trans HBf4.out.2.1.symm⟩)
                              have HU44 := Hid.of (HNm.out.2.1.trans u44)
                              have HU43 := Hid.of u44
                              have HL44 := Hid.of (show f44.length ≤ 1099511627776 by
                                have h5 := congrArg List.length HO44.out.2
                                rw [List.length_map, List.length_map, HH16.out] at h5
                                omega)
                              clear o44 u44 e44 HF1 HT43
                              dsimp only
                              have HSF := sameFiles_yes a44 a16 f44 f16 c44 c16 w44 HO44.out.1.fsl (HBf4.out.1.up HU44.out).fsl HO44.out.2 HL44.out
                              rw [HH16.out] at HSF
                              have HSF2 := Hid.of HSF
                              clear HSF
                              go_wp2_with fail
                              refine HSF2.out.mono ?_
                              rintro e w45 ⟨rfl, u45⟩
                              have HU45 := Hid.of (HU44.out.trans u45)
                              have HNm5 := Hid.of (show w45.ownsRow w40.heap.size 9 1 (.slice a43 (m + 1) c43) (m + 1) (xs ++ [.string ⟨#[35, 35]⟩]) from ow_up HNm.out.1 (HU43.out.trans u45))
                              clear u45 HSF2 HO44 HL44 HU44 HU43
                              dsimp only
                              have HT45 := Hid.of (HT40.out.upTo HU45.out)
                              have HLi := Hid.of (List_dd ⟨#[]⟩ w45 HT45.out.e.ok HFe.out.2.1)
                              go_wp2_with fail
                              refine HLi.out.mono ?_
                              rintro e w46 ⟨v46, rfl, o46, u46⟩
                              rw [HLs.out] at o46
                              obtain ⟨a46, c46, rfl⟩ := row_len o46
                              have hlm : (F.map Prod.fst).length = m := by rw [List.length_map, HM.out.2.2]
                              rw [hlm]
                              have HU46 := Hid.of (HU45.out.trans u46)
                              have HNm6 := Hid.of (show w46.ownsRow w40.heap.size 9 1 (.slice a43 (m + 1) c43) (m + 1) (xs ++ [.string ⟨#[35, 35]⟩]) from ow_up HNm5.out u46)
                              clear o46 u46 HLi hlm HU45 HNm5 HT45
                              dsimp only
                              go_wp2
                              have HTL := Hid.of (show TL w w46 w46 w15.heap.size D A E 602 0 (ddS s) sa se a16 f16 c16 from ⟨HT40.out.upTo HU46.out, HBf4.out.1.up HU46.out, HBf4.out.1.up HU46.out, HOw.out.1, fun k hk => .inl (HOw.out.2.1 k hk), ⟨HOw.out.2.2, Nat.le_trans HSz4.out HU46.out.size⟩, Nat.le_refl _⟩)
                              go_loopw [22] (fun v22 wr => ∃ i : Nat, v22 = .int .i64 (i : Int) ∧ i ≤ m ∧ Hid (Up w46 wr)) (fun v22 _ => m - (intOf v22).toNat)
                              case atStart => exact ⟨0, rfl, by omega, Hid.of (Up.refl _)⟩
                              case round =>
                                obtain ⟨i, rfl, hi, hQ⟩ := hrel
                                have HQ := Hid.of hQ.out
                                clear hQ
                                by_cases hlt : i < m
                                · have hz : (i : Int) < (m : Int) := by omega
                                  have hz1 : (i : Int) < (m : Int) + 1 := by omega
                                  have hz2 : i < m + 1 := by omega
                                  have hif : i < f16.length := by rw [HH16.out]; exact hlt
                                  have HTr := Hid.of (HTL.out.upTo HQ.out)
                                  obtain ⟨g16, hg16, _, k16, _, _⟩ := HTr.out.b.some hif
                                  subst hg16
                                  obtain ⟨nm, hnm⟩ : ∃ nm, f16[i].nm = nm := ⟨_, rfl⟩
                                  rw [hnm] at k16
                                  obtain ⟨g43, hg43⟩ : ∃ g43, a43 = some ⟨g43, 0, none⟩ := by
                                    rcases HNm6.out.2 with ⟨_, h0⟩ | ⟨g, cap, cur, e, _⟩
                                    · omega
                                    · injection e with e1 _ _
                                      exact ⟨g, e1⟩
                                  subst hg43
                                  have k43 := World.ownsRow.cells HNm6.out (g := g43) rfl i _ (HNm.out.2.2 i hlt)
                                  rw [Addr.add_lit, Nat.zero_add] at k43
                                  have HK1 := Hid.of k16
                                  have HK2 := Hid.of (HQ.out.cell k43)
                                  have HNn := Hid.of hnm
                                  clear k16 k43 hnm
                                  go_wp2
                                  refine wp_region_held_drew (S := fun w2 => Up wr w2) (by kernel_rfl) (Up.refl _).drew (fun hS => ?_)
                                  refine wpAnyH_take (i := 0) (oi := { dst := some 258, op := Go.Op.move (Go.Operand.tmp 11), type := 24, pos := "outright.go:491", after := #[], guard := none }) (v := .pointer (some ⟨E, 0, none⟩)) rfl (by kernel_rfl) (by kernel_rfl) (by kernel_rfl) (fun _ _ _ h => h) (Or.inl ⟨by kernel_rfl, ?_⟩) hS ?_
                                  · intro w5 hSw
                                    clear hSw hS
                                    go_simp
                                  simp only [Act.put, List.setIfInBounds_toArray, List.set_cons_zero, List.set_cons_succ]
                                  refine wpAnyH_take (i := 2) (oi := { dst := some 260, op := Go.Op.move (Go.Operand.tmp 22), type := 3, pos := "outright.go:491", after := #[], guard := none }) (v := .int .i64 (i : Int)) rfl (by kernel_rfl) (by kernel_rfl) (by kernel_rfl) (fun _ _ _ h => h) (Or.inl ⟨by kernel_rfl, ?_⟩) hS ?_
                                  · intro w5 hSw
                                    clear hSw hS
                                    go_simp
                                  simp only [Act.put, List.setIfInBounds_toArray, List.set_cons_zero, List.set_cons_succ]
                                  refine wpAnyH_take (i := 5) (oi := { dst := some 263, op := Go.Op.move (Go.Operand.tmp 12), type := 32, pos := "outright.go:491", after := #[], guard := none }) (v := .slice (some ⟨g16, 0, none⟩) m c16) rfl (by kernel_rfl) (by kernel_rfl) (by kernel_rfl) (fun _ _ _ h => h) (Or.inl ⟨by kernel_rfl, ?_⟩) hS ?_
                                  · intro w5 hSw
                                    clear hSw hS
                                    go_simp
                                  simp only [Act.put, List.setIfInBounds_toArray, List.set_cons_zero, List.set_cons_succ]
                                  refine wpAnyH_take (i := 6) (oi := { dst := some 264, op := Go.Op.move (Go.Operand.tmp 22), type := 3, pos := "outright.go:491", after := #[], guard := none }) (v := .int .i64 (i : Int)) rfl (by kernel_rfl) (by kernel_rfl) (by kernel_rfl) (fun _ _ _ h => h) (Or.inl ⟨by kernel_rfl, ?_⟩) hS ?_
                                  · intro w5 hSw
                                    clear hSw hS
                                    go_simp
                                  simp only [Act.put, List.setIfInBounds_toArray, List.set_cons_zero, List.set_cons_succ]
                                  refine wpAnyH_take (i := 7) (oi := { dst := some 265, op := Go.Op.indexAddr 32 (Go.Operand.tmp 263) (Go.Operand.tmp 264), type := 0, pos := "outright.go:491", after := #[{ on := 5, ground := Go.Ground.data }, { on := 6, ground := Go.Ground.data }], guard := none }) (v := .pointer (some ⟨g16, i * 2, none⟩)) rfl (by kernel_rfl) (by kernel_rfl) (by kernel_rfl) (fun _ _ _ h => h) (Or.inl ⟨by kernel_rfl, ?_⟩) hS ?_
                                  · intro w5 hSw
                                    clear hSw hS
                                    go_simp
                                  simp only [Act.put, List.setIfInBounds_toArray, List.set_cons_zero, List.set_cons_succ]
                                  refine wpAnyH_take (i := 8) (oi := { dst := some 266, op := Go.Op.fieldAddr 49 (Go.Operand.tmp 265) 0, type := 0, pos := "outright.go:491", after := #[{ on := 7, ground := Go.Ground.data }], guard := none }) (v := .pointer (some ⟨g16, i * 2, none⟩)) rfl (by kernel_rfl) (by kernel_rfl) (by kernel_rfl) (fun _ _ _ h => h) (Or.inl ⟨by kernel_rfl, ?_⟩) hS ?_
                                  · intro w5 hSw
                                    clear hSw hS
                                    go_simp
                                  simp only [Act.put, List.setIfInBounds_toArray, List.set_cons_zero, List.set_cons_succ]
                                  refine wpAnyH_take (i := 9) (oi := { dst := some 267, op := Go.Op.load 9 (Go.Operand.tmp 266), type := 9, pos := "outright.go:491", after := #[{ on := 8, ground := Go.Ground.data }], guard := none }) (v := .string nm) rfl (by kernel_rfl) (by kernel_rfl) (by kernel_rfl) (fun _ _ _ h => h) (Or.inl ⟨by kernel_rfl, ?_⟩) hS ?_
                                  · intro w5 hSw
                                    have h0 := hSw.cell HK1.out
                                    clear hSw hS
                                    go_simp
                                  simp only [Act.put, List.setIfInBounds_toArray, List.set_cons_zero, List.set_cons_succ]
                                  refine wpAnyH_ready (rs := [1]) (by kernel_rfl) (by simp) ?_
                                  refine AllReadyH.cons (o := { dst := some 259, op := Go.Op.call { callee := Go.Callee.value (Go.Operand.func 12), args := #[Go.Operand.tmp 258, Go.Operand.const (Go.Value.string { data := #[] })], argTypes := #[24, 9] }, type := 29, pos := "outright.go:491", after := #[{ on := 0, ground := Go.Ground.data }], guard := none }) rfl (fun K hK => ?_) AllReadyH.nil
                                  rw [if_pos (by kernel_rfl)]
                                  go_simp
                                  refine (List_dd ⟨#[]⟩ _ (HTr.out.t.e.ok.up hS) HFe.out.2.1).mono ?_
                                  rintro e2 w5 ⟨v5, rfl, o5, u5⟩
                                  rw [HLs.out] at o5
                                  have hlm : (F.map Prod.fst).length = m := by rw [List.length_map, HM.out.2.2]
                                  unfold OwS at o5
                                  rw [hlm] at o5
                                  have hg5 : ∃ g5 c5, v5 = .slice (some ⟨g5, 0, none⟩) m c5 ∧ w5.cell? ⟨g5, i, none⟩ = some (.string nm) := by
                                    rcases o5.2 with ⟨_, h0⟩ | ⟨g, cap, cur, e, _⟩
                                    · omega
                                    · subst e
                                      have h5 := World.ownsRow.cells o5 (g := g) rfl i _ (name_at HBf4.out.2.1 hif)
                                      rw [Addr.add_lit, Nat.zero_add, HNn.out] at h5
                                      exact ⟨g, cap, rfl, h5⟩
                                  obtain ⟨g5, c5, rfl, k5⟩ := hg5
                                  have HK3 := Hid.of k5
                                  dsimp only
                                  refine hK.out _ _ (hS.trans u5) (fun hS => ?_)
                                  clear hK K u5 o5 hlm k5
                                  refine wpAnyH_take (i := 3) (oi := { dst := some 261, op := Go.Op.indexAddr 29 (Go.Operand.tmp 259) (Go.Operand.tmp 260), type := 0, pos := "outright.go:491", after := #[{ on := 1, ground := Go.Ground.data }, { on := 2, ground := Go.Ground.data }], guard := none }) (v := .pointer (some ⟨g5, i, none⟩)) rfl (by kernel_rfl) (by kernel_rfl) (by kernel_rfl) (fun _ _ _ h => h) (Or.inl ⟨by kernel_rfl, ?_⟩) hS ?_
                                  · intro w5 hSw
                                    clear hSw hS
                                    go_simp
                                  simp only [Act.put, List.setIfInBounds_toArray, List.set_cons_zero, List.set_cons_succ]
                                  refine wpAnyH_ready (rs := [4]) (by kernel_rfl) (by simp) ?_
                                  refine AllReadyH.cons (o := { dst := some 262, op := Go.Op.load 9 (Go.Operand.tmp 261), type := 9, pos := "outright.go:491", after := #[{ on := 3, ground := Go.Ground.data }], guard := none }) rfl (fun K hK => ?_) AllReadyH.nil
                                  rw [if_pos (by kernel_rfl)]
                                  have k5 := HK3.out
                                  go_simp
                                  refine hK.out _ _ hS (fun hS => ?_)
                                  clear hK K k5
                                  refine wpAnyH_take (i := 10) (oi := { dst := some 268, op := Go.Op.binOp Go.BinOp.neq 9 (Go.Operand.tmp 262) (Go.Operand.tmp 267) 9, type := 4, pos := "outright.go:491", after := #[{ on := 4, ground := Go.Ground.data }, { on := 9, ground := Go.Ground.data }], guard := none }) (v := .bool false) rfl (by kernel_rfl) (by kernel_rfl) (by kernel_rfl) (fun _ _ _ h => h) (Or.inl ⟨by kernel_rfl, ?_⟩) hS ?_
                                  · intro w5 hSw
                                    clear hSw hS
                                    go_simp
                                  simp only [Act.put, List.setIfInBounds_toArray, List.set_cons_zero, List.set_cons_succ]
                                  refine wpAnyH_take (i := 11) (oi := { dst := some 269, op := Go.Op.move (Go.Operand.tmp 268), type := 4, pos := "outright.go:491", after := #[{ on := 10, ground := Go.Ground.data }, { on := 1, ground := Go.Ground.chain }], guard := none }) (v := .bool false) rfl (by kernel_rfl) (by kernel_rfl) (by kernel_rfl) (fun _ _ _ h => h) (Or.inl ⟨by kernel_rfl, ?_⟩) hS ?_
                                  · intro w5 hSw
                                    clear hSw hS
                                    go_simp
                                  simp only [Act.put, List.setIfInBounds_toArray, List.set_cons_zero, List.set_cons_succ]
                                  refine wpAnyH_take (i := 12) (oi := { dst := some 270, op := Go.Op.move (Go.Operand.tmp 20), type := 29, pos := "outright.go:491", after := #[{ on := 11, ground := Go.Ground.guard }], guard := some (11, false) }) (v := .slice (some ⟨g43, 0, none⟩) (m + 1) c43) rfl (by kernel_rfl) (by kernel_rfl) (by kernel_rfl) (fun _ _ _ h => h) (Or.inl ⟨by kernel_rfl, ?_⟩) hS ?_
                                  · intro w5 hSw
                                    clear hSw hS
                                    go_simp
                                  simp only [Act.put, List.setIfInBounds_toArray, List.set_cons_zero, List.set_cons_succ]
                                  refine wpAnyH_take (i := 13) (oi := { dst := some 271, op := Go.Op.move (Go.Operand.tmp 22), type := 3, pos := "outright.go:491", after := #[{ on := 11, ground := Go.Ground.guard }], guard := some (11, false) }) (v := .int .i64 (i : Int)) rfl (by kernel_rfl) (by kernel_rfl) (by kernel_rfl) (fun _ _ _ h => h) (Or.inl ⟨by kernel_rfl, ?_⟩) hS ?_
                                  · intro w5 hSw
                                    clear hSw hS
                                    go_simp
                                  simp only [Act.put, List.setIfInBounds_toArray, List.set_cons_zero, List.set_cons_succ]
                                  refine wpAnyH_take (i := 14) (oi := { dst := some 272, op := Go.Op.indexAddr 29 (Go.Operand.tmp 270) (Go.Operand.tmp 271), type := 0, pos := "outright.go:491", after := #[{ on := 12, ground := Go.Ground.data }, { on := 13, ground := Go.Ground.data }, { on := 11, ground := Go.Ground.guard }], guard := some (11, false) }) (v := .pointer (some ⟨g43, i, none⟩)) rfl (by kernel_rfl) (by kernel_rfl) (by kernel_rfl) (fun _ _ _ h => h) (Or.inl ⟨by kernel_rfl, ?_⟩) hS ?_
                                  · intro w5 hSw
                                    clear hSw hS
                                    go_simp
                                  simp only [Act.put, List.setIfInBounds_toArray, List.set_cons_zero, List.set_cons_succ]
                                  refine wpAnyH_take (i := 15) (oi := { dst := some 273, op := Go.Op.load 9 (Go.Operand.tmp 272), type := 9, pos := "outright.go:491", after := #[{ on := 14, ground := Go.Ground.data }, { on := 11, ground := Go.Ground.guard }], guard := some (11, false) }) (v := .string ⟨#[35]⟩) rfl (by kernel_rfl) (by kernel_rfl) (by kernel_rfl) (fun _ _ _ h => h) (Or.inl ⟨by kernel_rfl, ?_⟩) hS ?_
                                  · intro w5 hSw
                                    have h0 := hSw.cell HK2.out
                                    clear hSw hS
                                    go_simp
                                  simp only [Act.put, List.setIfInBounds_toArray, List.set_cons_zero, List.set_cons_succ]
                                  refine wpAnyH_take (i := 16) (oi := { dst := some 274, op := Go.Op.binOp Go.BinOp.neq 9 (Go.Operand.tmp 273) (Go.Operand.const (Go.Value.string { data := #[35] })) 9, type := 4, pos := "outright.go:491", after := #[{ on := 15, ground := Go.Ground.data }, { on := 11, ground := Go.Ground.guard }], guard := some (11, false) }) (v := .bool false) rfl (by kernel_rfl) (by kernel_rfl) (by kernel_rfl) (fun _ _ _ h => h) (Or.inl ⟨by kernel_rfl, ?_⟩) hS ?_
                                  · intro w5 hSw
                                    clear hSw hS
                                    go_simp
                                  simp only [Act.put, List.setIfInBounds_toArray, List.set_cons_zero, List.set_cons_succ]
                                  refine wpAnyH_take (i := 17) (oi := { dst := some 275, op := Go.Op.pick (Go.Operand.tmp 269) (Go.Operand.const (Go.Value.bool true)) (Go.Operand.tmp 274), type := 4, pos := "outright.go:491", after := #[{ on := 11, ground := Go.Ground.data }, { on := 16, ground := Go.Ground.data }], guard := none }) (v := .bool false) rfl (by kernel_rfl) (by kernel_rfl) (by kernel_rfl) (fun _ _ _ h => h) (Or.inl ⟨by kernel_rfl, ?_⟩) hS ?_
                                  · intro w5 hSw
                                    clear hSw hS
                                    go_simp
                                  simp only [Act.put, List.setIfInBounds_toArray, List.set_cons_zero, List.set_cons_succ]
                                  have HSZ := Hid.of hS
                                  clear hS
                                  refine wpAnyH_done (by kernel_rfl) ?_ _
                                  go_wp2
                                  go_roundw
                                  all_goals first
                                    | exact ⟨i + 1, by go_num, by omega, Hid.of (HQ.out.trans HSZ.out)⟩
                                    | (simp [intOf]; omega)
                                · have hie : m = i := by omega
                                  subst hie
                                  have hz : ¬ (m : Int) < (m : Int) := by omega
                                  have HTr := Hid.of (HTL.out.upTo HQ.out)
                                  have hsb : Sb (wr.alloc (.cells [.int .u8 1, .int .u8 2, .int .u8 3].toArray 5)) (.slice (some ⟨wr.heap.size, 0, none⟩) 3 3) [1, 2, 3] := sb_at (ds := [1, 2, 3]) (at_new wr 5 [.int .u8 1, .int .u8 2, .int .u8 3]) (by simp only [maxLen]; decide)
                                  have HSp := Hid.of (spare_walk _ [1, 2, 3] _ hsb (by decide) (by decide))
                                  have HUa := Hid.of ((Up.refl wr).alloc (.cells [.int .u8 1, .int .u8 2, .int .u8 3].toArray 5))
                                  clear hsb
                                  clear HNm6 HNm HLs HX HTL
                                  go_wp2_with fail
                                  refine HSp.out.mono ?_
                                  rintro e w50 ⟨v50, rfl, o50, u50⟩
                                  obtain ⟨gm, cm, hgm, hcm, _, _, _⟩ := ow_some o50 (j := 0) (by rw [mine_len]; omega)
                                  rw [mine_len] at hgm hcm
                                  subst hgm
                                  have HTL0 := Hid.of (HTr.out.upTo (HUa.out.trans u50))
                                  have HMi := Hid.of (show RB w50 wr.heap.size E se (.slice (some ⟨gm, 0, none⟩) 303 cm) ([1, 2, 3] ++ List.replicate 300 9) from RB.fresh o50 (HTr.out.t.e.ok.up HUa.out) HUa.out.size)
                                  have HGm := Hid.of (show w46.heap.size ≤ gm from by
                                    have h1 := (World.ownsRow.lt o50 gm rfl).1
                                    have h2 := HUa.out.size
                                    have h3 := HQ.out.size
                                    omega)
                                  have hcmz : (3 : Int) ≤ (cm : Int) := by omega
                                  have hcmz2 : (303 : Int) ≤ (cm : Int) := by omega
                                  clear o50 u50 HSp HUa HTr
                                  dsimp only
                                  have HCr := Create_all newN newN 0 [] w50 HTL0.out.t.e.ok (by rw [HFe.out.2.2.2.1]; omega) (by omega)
                                  rw [er_ok HFe.out.2.1 (new_own _ _) (fau_zero HFe.out.2.2.2.1)] at HCr
                                  have HCr2 := Hid.of HCr
                                  clear HCr
                                  go_wp2_with fail
                                  refine HCr2.out.mono ?_
                                  rintro e w51 ⟨rfl, s1, a51, p51⟩
                                  have HN1 := Hid.of (new_cr HFe.out.2.1 HFe.out.2.2.2.1 HTL0.out.t.e.ok.nD p51)
                                  have HTL1 := Hid.of (HTL0.out.act a51)
                                  have HMi1 := Hid.of (HMi.out.disk a51.2.2 a51.2.1)
                                  clear a51 p51 HCr2 HTL0 HMi
                                  dsimp only
                                  have H0 := Hid.of (new_wr (s := s1) (HN1.out.2.2.1.trans HFe.out.2.2.2.2) (Nat.le_trans HN1.out.2.2.2.2 (HUd.out)) HN1.out.2.2.2.1 HTL1.out.t.e.ok.nms)
                                  have HWr := Write_all newN newN 0 (.slice (some ⟨gm, 0, none⟩) 3 cm) [1, 2, 3] w51 HTL1.out.t.e.ok (by rw [HN1.out.2.1]; omega) (by omega) (mine_take HMi1.out.row.sb) (fun e => HMi1.out.no gm rfl (.inl (Option.some.inj e))) (by decide)
                                  rw [er_ok HN1.out.1 H0.out (fau_zero HN1.out.2.1)] at HWr
                                  have HWr2 := Hid.of HWr
                                  clear HWr
                                  go_wp2_with fail
                                  refine HWr2.out.mono ?_
                                  rintro e w52 ⟨rfl, s2, a52, p52⟩
                                  have HN2 := Hid.of (new_wr2 HN1.out.1 HN1.out.2.1 H0.out HN1.out.2.2.2.1 HTL1.out.t.e.ok.nD p52)
                                  have HTL2 := Hid.of (HTL1.out.act a52)
                                  have HMi2 := Hid.of (HMi1.out.disk a52.2.2 a52.2.1)
                                  clear a52 p52 HWr2 HTL1 HMi1
                                  dsimp only
                                  have HSd := Hid.of (spared_walk (.slice (some ⟨gm, 0, none⟩) 303 cm) w52 HMi2.out.row.sb)
                                  go_wp2_with fail
                                  refine HSd.out.mono ?_
                                  rintro e w53 ⟨rfl, h53⟩
                                  subst h53
                                  clear HSd
                                  dsimp only
                                  have hrow := HMi2.out.row
                                  unfold Ow at hrow
                                  rw [mine_len] at hrow
                                  have hx0 : ∃ u0, w53.cell? ⟨gm, 0, none⟩ = some u0 := by
                                    obtain ⟨g', c', e', _, _, k', _⟩ := ow_some HMi2.out.row (j := 0) (by rw [mine_len]; omega)
                                    rw [mine_len] at e'
                                    injection e' with e1
                                    injection e1 with e1
                                    injection e1 with e1
                                    subst e1
                                    exact ⟨_, k'⟩
                                  obtain ⟨u0, k0⟩ := hx0
                                  have ht0 := World.ownsRow.frozenAt hrow 0
                                  obtain ⟨_, hst2⟩ := World.ownsRow.stored hrow 0 (.int .u8 7)
                                  have HTL3 := Hid.of (HTL2.out.set hst2 HGm.out (HMi2.out.no gm rfl))
                                  clear hst2 hrow
                                  obtain ⟨f, hf, hnb, _⟩ := HN2.out.2
                                  have HFn := Hid.of (And.intro hf hnb)
                                  clear hf hnb
                                  have HRd := Hid.of (Read_yes newN f _ HTL3.out.t.e.ok HFn.out.1 HN2.out.1)
                                  go_wp2_with fail
                                  refine HRd.out.mono ?_
                                  rintro e w55 ⟨v55, rfl, o55, u55⟩
                                  rw [HFn.out.2] at o55
                                  obtain ⟨gg, cg, hgg, hcg, hgN, _, _⟩ := ow_some o55 (j := 0) (by decide)
                                  subst hgg
                                  have hcv : (convert 41 9 (.slice (some ⟨gg, 0, none⟩) 3 cg)).run Tryz.prog w55 = .ok (.string ⟨#[1, 2, 3]⟩) w55 := conv_sb2 (l := [1, 2, 3]) o55.sb
                                  have HTL5 := Hid.of (HTL3.out.upTo u55)
                                  have HGo := Hid.of (show ¬ own E s2 gg ∧ w46.heap.size ≤ gg from ⟨fun h => by
                                    have := HTL3.out.t.e.ok.lt h
                                    omega, Nat.le_trans HTL3.out.up hgN⟩)
                                  have HGr := Hid.of (show w55.ownsRow _ 5 1 (.slice (some ⟨gg, 0, none⟩) 3 cg) 3 (cb [1, 2, 3]) from o55)
                                  clear o55 u55 HRd HTL3 HTL2 HMi2 ht0 k0 hgN
                                  dsimp only
                                  go_wp2
                                  go_loopw [26] (fun v26 wr => ∃ i : Nat, v26 = .int .i64 (i : Int) ∧ i ≤ 3 ∧ Hid (TL w w46 wr w15.heap.size D A E 602 6 (ddS s) sa s2 a16 f16 c16 ∧ ∃ N xs, wr.ownsRow N 5 1 (.slice (some ⟨gg, 0, none⟩) 3 cg) 3 xs)) (fun v26 _ => 3 - (intOf v26).toNat)
                                  case atStart => exact ⟨0, rfl, by omega, Hid.of ⟨HTL5.out, _, _, HGr.out⟩⟩
                                  case round =>
                                    clear hcv
                                    obtain ⟨i, rfl, hi, hQ⟩ := hrel
                                    obtain ⟨N9, xs9, hx9⟩ := hQ.out.2
                                    have HTL6 := Hid.of hQ.out.1
                                    have HX9 := Hid.of hx9
                                    clear hQ hx9 HTL5 HGr
                                    by_cases hlt : i < 3
                                    · have hz : (i : Int) < 3 := by omega
                                      have hxl : i < xs9.length := by have := HX9.out.1; omega
                                      have k1 := World.ownsRow.cells HX9.out (g := gg) rfl i _ (List.getElem?_eq_getElem hxl)
                                      rw [Addr.add_lit, Nat.zero_add] at k1
                                      have ht := World.ownsRow.frozenAt HX9.out i
                                      obtain ⟨hst1, hst2⟩ := World.ownsRow.stored HX9.out i (.int .u8 8)
                                      have HSt := Hid.of (And.intro (HTL6.out.set hst2 HGo.out.2 HGo.out.1) hst1)
                                      obtain ⟨u0, hu0⟩ : ∃ u0, xs9[i] = u0 := ⟨_, rfl⟩
                                      rw [hu0] at k1
                                      clear hst1 hst2 hu0
                                      go_wp2
                                      go_roundw
                                      all_goals first
                                        | exact ⟨i + 1, by go_num, by omega, Hid.of ⟨HSt.out.1, _, _, HSt.out.2⟩⟩
                                        | (simp [intOf]; omega)
                                    · have hie : i = 3 := by omega
                                      subst hie
                                      have HRd := Hid.of (Read_yes newN f wr HTL6.out.t.e.ok HFn.out.1 HN2.out.1)
                                      go_wp2_with fail
                                      refine HRd.out.mono ?_
                                      rintro e w57 ⟨v57, rfl, o57, u57⟩
                                      rw [HFn.out.2] at o57
                                      obtain ⟨gh, ch, hgh, hch, _, _, _⟩ := ow_some o57 (j := 0) (by decide)
                                      subst hgh
                                      have hcv : (convert 41 9 (.slice (some ⟨gh, 0, none⟩) 3 ch)).run Tryz.prog w57 = .ok (.string ⟨#[1, 2, 3]⟩) w57 := conv_sb2 (l := [1, 2, 3]) o57.sb
                                      have HTL7 := Hid.of (HTL6.out.upTo u57)
                                      clear o57 u57 HRd HTL6 HX9
                                      dsimp only
                                      have HCI := Hid.of (copiedInts_walk (.slice ac cs.length cc) cs w57 (HC.out.up HTL7.out.t.d.up) (by omega))
                                      go_wp2_with fail
                                      refine HCI.out.mono ?_
                                      rintro e w58 ⟨v58, rfl, o58, u58⟩
                                      obtain ⟨a58, c58, rfl⟩ := row_len o58
                                      have HO58 := Hid.of o58
                                      have HTL8 := Hid.of (HTL7.out.upTo u58)
                                      have HDl := Hid.of (show D < w57.heap.size from lt_of_at HTL7.out.t.d.ok.disk)
                                      clear o58 u58 HCI HTL7 hcv
                                      dsimp only
                                      have HCr := Hid.of (Crash_gen _ D _ 2097152 (ddS s) (.slice a58 cs.length c58) cs w58 HTL8.out.t.d.ok (sint_own HO58.out) (fun g hg => by
                                        have h1 := World.ownsRow.lt HO58.out g hg
                                        have h2 := HDl.out
                                        omega) ((HIW.out.set s.acts s.unt s.flt true).cf (by omega)) (by have := HIV.out.2.2.2.1; show s.n0 + _ + _ ≤ _; omega) (by omega))
                                      go_wp2_with fail
                                      refine HCr.out.mono ?_
                                      rintro e w60 ⟨C, sc, fs3, gs3, ws3, w59, rfl, q1, q2, q3, q4, q5, q6, q7, q8, q9⟩
                                      have HL3 := Hid.of (LF.dd ⟨q4, q5, q6, q7, q8⟩)
                                      have HFc := Hid.of (show fsOf sc.nf = F ∧ sc.dead = false from ⟨by
                                        rw [q3.fs]
                                        refine (congrArg srF q9).trans (Eq.trans ?_ HhF.out)
                                        exact (LF.same (Sm.refl s) HIV.out.2.1 HIV.out.2.2.1 HTL8.out.t.d.ok.nD HLF.out HL3.out).symm, q3.st.1⟩)
                                      have HDn := Hid.of (show D < w15.heap.size from HOw.out.1 D (.inl (.inl rfl)))
                                      have HAZ := Hid.of (HTL8.out.die (q1.up q3.up) (fun k hk => hk ▸ HDn.out))
                                      have HCZ := Hid.of (show BK w w60 C 0 sc from q3.bk (up_fr HTL8.out.t.d.up (fun k hk => HTL8.out.t.d.lo k (.inl hk)) q1) HV.out)
                                      clear q1 q2 q3 q4 q5 q6 q7 q8 q9 HCr HTL8 HO58 HL3 HDl
                                      have hpC : ∀ w', (binOp .neq 24 (.pointer (some ⟨C, 0, none⟩)) (.pointer none)).run Tryz.prog w' = .ok (.bool true) w' := fun w' => by kernel_rfl
                                      have HNc := Hid.of (show sc.nf.length ≤ 200 by rw [← fsOf_len, HFc.out.1]; exact HF.out.1)
                                      dsimp only
                                      have HF1 := Hid.of (Files_gen w60 HAZ.out.1.ok HFa.out.2.1 (by have := HNa.out; omega))
                                      go_wp2_with fail
                                      refine HF1.out.mono ?_
                                      rintro e w61 ⟨a61, f61, c61, rfl, o61, u61, e61⟩
                                      have HO61 := Hid.of (show FsO w61 w60.heap.size a61 f61 c61 ∧ f61.map pr = f16.map pr from ⟨o61, ((show f61.map pr = fsOf sa.nf from e61).trans HFa.out.1).trans HBf4.out.2.1.symm⟩)
                                      have HU61 := Hid.of u61
                                      have HL61 := Hid.of (show f61.length ≤ 1099511627776 by
                                        have h5 := congrArg List.length HO61.out.2
                                        rw [List.length_map, List.length_map, HH16.out] at h5
                                        omega)
                                      clear o61 u61 e61 HF1
                                      dsimp only
                                      have HSF := sameFiles_yes a61 a16 f61 f16 c61 c16 w61 HO61.out.1.fsl (HAZ.out.2.up HU61.out).fsl HO61.out.2 HL61.out
                                      rw [HH16.out] at HSF
                                      have HSF2 := Hid.of HSF
                                      clear HSF
                                      go_wp2_with fail
                                      refine HSF2.out.mono ?_
                                      rintro e w62 ⟨rfl, u62⟩
                                      have HU62 := Hid.of (HU61.out.trans u62)
                                      clear u62 HSF2 HO61 HL61 HU61
                                      dsimp only
                                      have HF1 := Hid.of (Files_gen w62 (HCZ.out.upTo HU62.out).ok HFc.out.2 (by have := HNc.out; omega))
                                      go_wp2_with fail
                                      refine HF1.out.mono ?_
                                      rintro e w63 ⟨a63, f63, c63, rfl, o63, u63, e63⟩
                                      have HO63 := Hid.of (show FsO w63 w62.heap.size a63 f63 c63 ∧ f63.map pr = f16.map pr from ⟨o63, ((show f63.map pr = fsOf sc.nf from e63).trans HFc.out.1).trans HBf4.out.2.1.symm⟩)
                                      have HU63 := Hid.of (HU62.out.trans u63)
                                      have HL63 := Hid.of (show f63.length ≤ 1099511627776 by
                                        have h5 := congrArg List.length HO63.out.2
                                        rw [List.length_map, List.length_map, HH16.out] at h5
                                        omega)
                                      clear o63 u63 e63 HF1
                                      dsimp only
                                      have HSF := sameFiles_yes a63 a16 f63 f16 c63 c16 w63 HO63.out.1.fsl (HAZ.out.2.up HU63.out).fsl HO63.out.2 HL63.out
                                      rw [HH16.out] at HSF
                                      have HSF2 := Hid.of HSF
                                      clear HSF
                                      go_wp2_with fail
                                      refine HSF2.out.mono ?_
                                      rintro e w64 ⟨rfl, u64⟩
                                      have HUz := Hid.of (HCZ.out.up.trans (HU63.out.trans u64))
                                      clear u64 HSF2
                                      dsimp only
                                      go_wp2
                                      go_ret
                                      exact ⟨rfl, HUz.out⟩
end Go.Proofs.YtaibjeehjhlicaaGreatDoor
