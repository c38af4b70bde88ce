import Derived.Test.YtaibjeehjhlicaaGreatDoorQar
import Derived.Shelf.SlSortCmp.WholeK
import Derived.Shelf.SlSortCmp.NoneTotal
import Derived.Shelf.SlicesG.Cmp
import Derived.Ground.SlsfProg
import Derived.Ground.SlgcProg
import Derived.Ground.NamesProg
import Derived.Test.YtaibjeehjhlicaaGreatDoorRows
namespace Go.Proofs.YtaibjeehjhlicaaGreatDoor
open Go.RowKit Go.Shelf TextNum ModNum
theorem Sb.take {w : World} {a : Option Addr} {ds : List UInt8} {c : Nat} (h : Sb w (.slice a ds.length c) ds) (n : Nat) (hn : n ≤ ds.length) : Sb w (.slice a n c) (ds.take n) := by
  obtain ⟨a2, c2, e, h1, h2, h3, h4⟩ := h
  injection e with e1 _ e3
  subst e1 e3
  have hl : (ds.take n).length = n := by rw [List.length_take]; omega
  refine ⟨a, c, by rw [hl], by rw [hl]; omega, h2, fun e => ?_, fun ad e => ⟨fun hne => (h4 ad e).1 (fun e2 => hne (by rw [e2]; simp)), fun j u hj => (h4 ad e).2 j u ?_⟩⟩
  · have := h3 e
    rw [this.1]
    exact ⟨by simp, this.2⟩
  · unfold cb at hj ⊢
    rw [List.map_take] at hj
    have hjn : j < n := by
      have := (List.getElem?_eq_some_iff.1 hj).1
      rw [List.length_take] at this
      omega
    rw [List.getElem?_take, if_pos hjn] at hj
    exact hj
set_option maxRecDepth 100000 in
set_option maxHeartbeats 1000000 in
/-- the first n bytes of a loose write once more -/
theorem write1_part (B : Nat) (vo vk : Value) (xs ds : List UInt8) (p ba bk n : Nat) (w : World) (ho : Ow w B vo xs) (hd : Sb w vk ds) (hn : n ≤ ds.length) (hne : vk.ownBlock = none ∨ vk.ownBlock ≠ vo.ownBlock)
    (hca : w.cell? ⟨ba, 0, none⟩ = some (.int .i64 (p : Int))) (hck : w.cell? ⟨bk, 0, none⟩ = some vk)
    (hp : p ≤ 1099511627776) (hxs : xs.length ≤ 35184372088832) (hds : ds.length ≤ 35184372088832) (hB : B ≤ w.heap.size) :
    Calls Tryz.prog 97 #[vo, .int .i64 (n : Int), pv ba, pv bk] w fun e w' => ∃ v', e = .returned v' ∧ Ow w' B v' (wr xs p (ds.take n)) ∧ w.grownBy w' vo.ownBlock ∧ Frs w vo v' := by
  obtain ⟨a, c, rfl, h1, h2, h3, h4⟩ := hd
  have hS : Sb w (.slice a ds.length c) ds := ⟨a, c, rfl, h1, h2, h3, h4⟩
  have HC := Hid.of (written_walk B vo (.slice a n c) xs (ds.take n) p w.drew ho (hS.take n hn) (by cases a <;> exact hne) hp hxs (by rw [List.length_take]; omega) hB)
  have q1 : (n : Int) ≤ (c : Int) := by omega
  clear ho h4 hne hxs hS
  go_enter Tryz.func97, Tryz.ntmps97
  go_wp2
  go_region_with (go_at_call 98; refine HC.out.mono ?_; rintro e w1 ⟨v1, rfl, o1, g1, f1⟩; have HO1 := Hid.of o1; have HG1 := Hid.of (grownBy_undrew g1); have HF1 := Hid.of (show Frs w vo v1 from f1); clear o1 g1 f1)
  all_goals go_wp2
  all_goals go_ret
  all_goals exact ⟨_, rfl, HO1.out, HG1.out, HF1.out⟩
/-- what leftFiles has met: names with their files -/
abbrev LG : Type := List (List UInt8 × FL)
/-- a write that is left: whose, and which -/
structure WL where
  i : Nat
  l : LW
def wlc (x : WL) : List Value := [.int .i64 x.l.tn, .int .i64 (x.l.ds.length : Int), .func (.func 97) #[] #[pv x.l.ba, pv x.l.bk], .int .i64 (x.i : Int)]
theorem wlc_one (x : WL) : ∀ u ∈ wlc x, u.oneCell' = true := fun u hu => by
  simp only [wlc, List.mem_cons, List.not_mem_nil, or_false] at hu
  rcases hu with rfl | rfl | rfl | rfl <;> rfl
def wcs (ws : List WL) : List Value := ws.flatMap wlc
theorem wcs_len : ∀ ws : List WL, (wcs ws).length = ws.length * 4
  | [] => rfl
  | x :: r => by
    show (wlc x ++ wcs r).length = _
    rw [List.length_append, wcs_len r, List.length_cons]
    simp only [wlc, List.length_cons, List.length_nil]
    omega
theorem wcs_snoc (ws : List WL) (x : WL) : wcs (ws ++ [x]) = wcs ws ++ wlc x := by simp [wcs]
/-- the writes of these files -/
def wls (gs : LG) : List WL := (gs.zipIdx).flatMap fun p => p.1.2.lo.map fun l => ⟨p.2, l⟩
theorem wls_snoc (gs : LG) (p : List UInt8 × FL) : wls (gs ++ [p]) = wls gs ++ p.2.lo.map fun l => ⟨gs.length, l⟩ := by
  unfold wls
  rw [List.zipIdx_append, List.flatMap_append]
  simp
end Go.Proofs.YtaibjeehjhlicaaGreatDoor
namespace Go.Proofs
open Go.Shelf
def Tryz.laysSF_ren : Go.Shelf.Ren := ⟨fun | 6 => 103 | 15 => 91 | 14 => 125 | 28 => 122 | 29 => 123 | 20 => 134 | 21 => 135 | 22 => 136 | 23 => 137 | 24 => 138 | 25 => 139 | 26 => 140 | 27 => 141 | 46 => 146 | 47 => 128 | 48 => 129 | 49 => 147 | 50 => 148 | 57 => 153 | n => n, fun | 22 => 149 | 24 => 151 | 25 => 153 | 3 => 3 | 39 => 139 | 0 => 0 | 53 => 172 | 55 => 174 | 4 => 4 | 46 => 165 | 45 => 164 | 50 => 169 | 5 => 5 | 9 => 9 | 66 => 179 | 70 => 183 | 76 => 191 | 77 => 192 | n => n, fun | n => n⟩
theorem Tryz.laysSF : Go.Proofs.SlLaysF0.n6 Tryz.prog Tryz.laysSF_ren := {
  mixed := by kernel_rfl
  f6 := ⟨Tryz.f103.name, by decide, Tryz.func103.trans (congrArg some (by kernel_rfl))⟩
  f14 := ⟨Tryz.f125.name, by decide, Tryz.func125.trans (congrArg some (by kernel_rfl))⟩
  f15 := Tryz.func91.trans (congrArg some (by kernel_rfl))
  f20 := ⟨Tryz.f134.name, by decide, Tryz.func134.trans (congrArg some (by kernel_rfl))⟩
  f21 := ⟨Tryz.f135.name, by decide, Tryz.func135.trans (congrArg some (by kernel_rfl))⟩
  f22 := ⟨Tryz.f136.name, by decide, Tryz.func136.trans (congrArg some (by kernel_rfl))⟩
  f23 := ⟨Tryz.f137.name, by decide, Tryz.func137.trans (congrArg some (by kernel_rfl))⟩
  f24 := ⟨Tryz.f138.name, by decide, Tryz.func138.trans (congrArg some (by kernel_rfl))⟩
  f25 := ⟨Tryz.f139.name, by decide, Tryz.func139.trans (congrArg some (by kernel_rfl))⟩
  f26 := ⟨Tryz.f140.name, by decide, Tryz.func140.trans (congrArg some (by kernel_rfl))⟩
  f27 := ⟨Tryz.f141.name, by decide, Tryz.func141.trans (congrArg some (by kernel_rfl))⟩
  f28 := Tryz.func122.trans (congrArg some (by kernel_rfl))
  f29 := Tryz.func123.trans (congrArg some (by kernel_rfl))
  f46 := ⟨Tryz.f146.name, by decide, Tryz.func146.trans (congrArg some (by kernel_rfl))⟩
  f47 := Tryz.func128.trans (congrArg some (by kernel_rfl))
  f48 := Tryz.func129.trans (congrArg some (by kernel_rfl))
  f49 := ⟨Tryz.f147.name, by decide, Tryz.func147.trans (congrArg some (by kernel_rfl))⟩
  f50 := ⟨Tryz.f148.name, by decide, Tryz.func148.trans (congrArg some (by kernel_rfl))⟩
  f57 := ⟨Tryz.f153.name, by decide, Tryz.func153.trans (congrArg some (by kernel_rfl))⟩
  t0 := Tryz.underlying0
  a0 := Tryz.isAgg0
  z0 := Tryz.sizeOf0
  v0 := Tryz.zeroValue0
  t3 := Tryz.underlying3
  a3 := Tryz.isAgg3
  z3 := Tryz.sizeOf3
  v3 := Tryz.zeroValue3
  t4 := Tryz.underlying4
  a4 := Tryz.isAgg4
  z4 := Tryz.sizeOf4
  v4 := Tryz.zeroValue4
  t5 := Tryz.underlying5
  a5 := Tryz.isAgg5
  z5 := Tryz.sizeOf5
  v5 := Tryz.zeroValue5
  t9 := Tryz.underlying9
  a9 := Tryz.isAgg9
  z9 := Tryz.sizeOf9
  v9 := Tryz.zeroValue9
  t22 := Tryz.underlying149
  a22 := Tryz.isAgg149
  z22 := Tryz.sizeOf149
  v22 := Tryz.zeroValue149
  t25 := Tryz.underlying153
  a25 := Tryz.isAgg153
  z25 := Tryz.sizeOf153
  v25 := Tryz.zeroValue153
  t39 := Tryz.underlying139
  a39 := Tryz.isAgg139
  z39 := Tryz.sizeOf139
  v39 := Tryz.zeroValue139
  t45 := Tryz.underlying164
  a45 := Tryz.isAgg164
  z45 := Tryz.sizeOf164
  v45 := Tryz.zeroValue164
  t46 := Tryz.underlying165
  a46 := Tryz.isAgg165
  z46 := Tryz.sizeOf165
  v46 := Tryz.zeroValue165
  t50 := Tryz.underlying169
  a50 := Tryz.isAgg169
  z50 := Tryz.sizeOf169
  v50 := Tryz.zeroValue169
  t53 := Tryz.underlying172
  a53 := Tryz.isAgg172
  z53 := Tryz.sizeOf172
  v53 := Tryz.zeroValue172
  t55 := Tryz.underlying174
  a55 := Tryz.isAgg174
  z55 := Tryz.sizeOf174
  v55 := Tryz.zeroValue174
  t66 := Tryz.underlying179
  a66 := Tryz.isAgg179
  z66 := Tryz.sizeOf179
  v66 := Tryz.zeroValue179
  t70 := Tryz.underlying183
  a70 := Tryz.isAgg183
  z70 := Tryz.sizeOf183
  v70 := Tryz.zeroValue183
  t76 := Tryz.underlying191
  a76 := Tryz.isAgg191
  z76 := Tryz.sizeOf191
  v76 := Tryz.zeroValue191
  t77 := Tryz.underlying192
  a77 := Tryz.isAgg192
  z77 := Tryz.sizeOf192
  v77 := Tryz.zeroValue192 }
def Tryz.laysCmp_ren : Go.Shelf.Ren := ⟨fun | 5 => 105 | 7 => 126 | n => n, fun | 22 => 3 | 3 => 3 | 4 => 4 | n => n, fun | n => n⟩
theorem Tryz.laysCmp : Go.Proofs.SlLaysC2.n5 Tryz.prog Tryz.laysCmp_ren := {
  mixed := by kernel_rfl
  f5 := ⟨Tryz.f105.name, by decide, Tryz.func105.trans (congrArg some (by kernel_rfl))⟩
  f7 := ⟨Tryz.f126.name, by decide, Tryz.func126.trans (congrArg some (by kernel_rfl))⟩
  t3 := Tryz.underlying3
  a3 := Tryz.isAgg3
  z3 := Tryz.sizeOf3
  v3 := Tryz.zeroValue3
  t4 := Tryz.underlying4
  a4 := Tryz.isAgg4
  z4 := Tryz.sizeOf4
  v4 := Tryz.zeroValue4
  t22 := Tryz.underlying3
  a22 := Tryz.isAgg3
  z22 := Tryz.sizeOf3
  v22 := Tryz.zeroValue3 }
end Go.Proofs
namespace Go.Proofs.YtaibjeehjhlicaaGreatDoor
open Go.RowKit Go.Shelf TextNum ModNum Go.Lib Go.Sort
set_option maxRecDepth 100000 in
set_option maxHeartbeats 1000000 in
theorem cmp4_walk (x y : WL) (W : World) : Calls Tryz.prog 104 #[.agg (wlc x).toArray, .agg (wlc y).toArray] W fun e w' => e = .returned (.int .i64 (Lib.compareInt x.l.tn y.l.tn)) ∧ ∃ q os', w' = grow (W.drewN q) os' := by
  have hcon := fun W' => AnyG.cmp_Compare_int Tryz.laysCmp x.l.tn y.l.tn W'
  change ∀ W', Calls Tryz.prog 105 _ _ _ at hcon
  have HC := Hid.of hcon
  clear hcon
  unfold wlc
  generalize Lib.compareInt x.l.tn y.l.tn = r at *
  go_enter Tryz.func104, Tryz.ntmps104
  go_wp2_with fail
  refine (HC.out _).mono ?_
  rintro e w' ⟨rfl, rfl⟩
  dsimp only
  go_wp2
  go_ret
  exact ⟨rfl, 0, _, by rw [alloc_eq_grow, alloc_eq_grow, grow_grow]; rfl⟩
theorem ltTn (x y : WL) : ltOf (fun x y : WL => Lib.compareInt x.l.tn y.l.tn) x y = decide (x.l.tn < y.l.tn) := by
  unfold ltOf Lib.compareInt
  by_cases h1 : x.l.tn < y.l.tn
  · simp [h1]
  · by_cases h2 : y.l.tn < x.l.tn <;> simp [h1, h2]
theorem swoTn : SWO (ltOf fun x y : WL => Lib.compareInt x.l.tn y.l.tn) where
  irrefl x := by rw [ltTn]; simp
  trans x y z h1 h2 := by rw [ltTn] at *; simp at *; omega
  ntrans x y z h1 h2 := by rw [ltTn] at *; simp at *; omega
set_option maxRecDepth 100000 in
theorem aggLeft (w : World) : (isAgg 151).run Tryz.prog w = .ok true w := by kernel_rfl
set_option maxRecDepth 100000 in
theorem sizeLeft (w : World) : (Go.sizeOf 151).run Tryz.prog w = .ok 4 w := by kernel_rfl
theorem wcs_get : ∀ (ws : List WL) {i c : Nat} (hi : i < ws.length), c < 4 → (wcs ws)[i * 4 + c]? = (wlc ws[i])[c]?
  | x :: r, 0, c, _, hc => by
    show (wlc x ++ wcs r)[0 * 4 + c]? = _
    rw [Nat.zero_mul, Nat.zero_add, List.getElem?_append_left (by simpa [wlc] using hc)]
    rfl
  | x :: r, i + 1, c, hi, hc => by
    have ih := wcs_get r (i := i) (c := c) (by simpa using hi) hc
    show (wlc x ++ wcs r)[(i + 1) * 4 + c]? = _
    rw [List.getElem?_append_right (by simp [wlc]; omega), show (i + 1) * 4 + c - (wlc x).length = i * 4 + c by simp [wlc]; omega, ih]
    rfl
theorem own_cells {w : World} {N g cap q : Nat} {e : TypeId} {cur : Array Value} {xs : List Value} (hb : N ≤ g) (hg : w.heap[g]? = some (.cells cur e (0, 0))) (hq : q ≤ cap) (hc : cap ≤ maxLen) (hs : cur.size = cap * 4) (hl : xs.length = q * 4) (h : ∀ j u, xs[j]? = some u → w.cell? ⟨g, j, none⟩ = some u) : w.ownsRow N e 4 (.slice (some ⟨g, 0, none⟩) q cap) q xs := by
  refine ⟨hl, .inr ⟨g, cap, cur, rfl, hb, hg, hq, hc, hs, ?_⟩⟩
  apply List.ext_getElem?
  intro j
  by_cases hj : j < q * 4
  · rw [List.getElem?_take, if_pos hj]
    have hx : j < xs.length := by omega
    have h1 := h j _ (List.getElem?_eq_getElem hx)
    rw [cell_of_row w g j cur _ (0, 0) hg] at h1
    rw [List.getElem?_eq_getElem hx, ← h1]
    simp
  · rw [List.getElem?_eq_none (by rw [List.length_take]; omega), List.getElem?_eq_none (by omega)]
set_option maxHeartbeats 1000000 in
theorem Sort4_walk (N q : Nat) (v : Value) (ws : List WL) (w : World) (h : w.ownsRow N 151 4 v q (wcs ws)) (hq : ws.length = q) (hl : q ≤ 1000000) :
    Calls Tryz.prog 103 #[v, .func (.func 104) #[] #[]] w fun e w' => e = .returned (.tuple #[]) ∧ ∃ ws', List.Perm ws' ws ∧ List.Pairwise (fun x y : WL => x.l.tn ≤ y.l.tn) ws' ∧ w'.ownsRow N 151 4 v q (wcs ws') ∧ w.grownBy w' v.ownBlock := by
  rcases h.2 with ⟨rfl, h0⟩ | ⟨g, cap, cur, rfl, hb, hg, hnc, hcm, hcs, ht⟩
  · have : ws = [] := List.eq_nil_of_length_eq_zero (by omega)
    subst this
    subst h0
    refine (AnyF.slices_SortFunc_none Tryz.laysSF none 0 _ w).mono ?_
    rintro e w' ⟨rfl, rfl⟩
    exact ⟨rfl, [], List.Perm.refl _, List.Pairwise.nil, h, grown_refl _ _⟩
  · haveI : Inhabited WL := ⟨⟨0, ⟨0, [], 0, 0, .bool false, 0⟩⟩⟩
    have hH : HoldsK wlc 4 w g 0 ws.toArray := fun t htt => by
      rw [size_flatK] at htt
      have htt2 : t < ws.length * 4 := by simpa using htt
      have hi : t / 4 < ws.length := by omega
      have h1 := World.ownsRow.cells h rfl t ((flatK wlc 4 ws.toArray)[t]!) (by
        rw [get_flatK _ _ _ _ htt]
        have h2 := wcs_get ws (i := t / 4) (c := t % 4) hi (by omega)
        rw [show t / 4 * 4 + t % 4 = t by omega] at h2
        rw [h2, getElem!_pos _ (t / 4) (by simpa using hi)]
        have h3 : t % 4 < (wlc ws[t / 4]).length := by simp [wlc]; omega
        simp only [List.getElem_toArray]
        have h4 : (wlc ws[t / 4])[t % 4]! = (wlc ws[t / 4])[t % 4] := getElem!_pos (wlc ws[t / 4]) (t % 4) h3
        rw [h4, List.getElem?_eq_getElem h3])
      rw [Addr.add_lit] at h1
      exact ⟨by rw [h1]; rfl, by simp [World.frozen?, hg]⟩
    have hlt : g < w.heap.size := (Array.getElem?_eq_some_iff.1 hg).1
    have eg : ∀ args w, (callFunc 104 args).run Tryz.prog w = .ok (.enter 104 args) w := enters_of Tryz.func104 (by kernel_rfl) rfl
    have hcon := AnyQ.slices_SortFunc Tryz.laysSF 4 aggLeft sizeLeft wlc (fun _ => rfl) (fun x v hv => wlc_one x v hv) (fun x y : WL => Lib.compareInt x.l.tn y.l.tn) swoTn 104 #[] g 0 cap ws.toArray w eg (fun m os dk _ x y => cmp4_walk x y _) hH hlt (by simp; omega)
    rw [show ws.toArray.size = q by simpa using hq] at hcon
    refine Calls.mono hcon ?_
    rintro e w' ⟨rfl, d', n, os, hp, hs, rfl⟩
    have hd' : d'.size = q := by rw [hp.1]; simpa using hq
    have hup : Up (putRowK wlc 4 (Sort.ahead w n) g 0 d') (sortWorldK wlc 4 w g 0 n d' os) := ⟨rfl, rfl, rfl, by simp [sortWorldK, grow], fun k hk => heap_grow_old _ os hk⟩
    have hgb : w.grownBy (putRowK wlc 4 (Sort.ahead w n) g 0 d') (some g) := ⟨rfl, rfl, rfl, by unfold putRowK; rw [size_putRow]; exact Nat.le_refl _, fun k hk hne => by
      have hne2 : ¬ g = k := fun e => hne (by rw [← e])
      simp [putRowK, putRow, mapBlock, Array.getElem?_modify, hne2, Sort.ahead]⟩
    have hHp : HoldsK wlc 4 (putRowK wlc 4 (Sort.ahead w n) g 0 d') g 0 d' := holdsK_putRowK wlc 4 _ g 0 ws.toArray d' (holdsK_ahead wlc 4 w n g 0 _ hH) (by rw [hd']; simpa using hq.symm)
    have hgp : (putRowK wlc 4 (Sort.ahead w n) g 0 d').heap[g]? = some (.cells (putCells id 0 (flatK wlc 4 d') cur) 151 (0, 0)) := by
      simp [putRowK, putRow, mapBlock, Array.getElem?_modify, Sort.ahead, hg, onCells]
    refine ⟨rfl, d'.toList, ?_, ?_, ?_, ?_⟩
    · have h3 := hp.2.2
      rw [show d'.extract 0 q = d' by rw [← hd']; simp, show ws.toArray.extract 0 q = ws.toArray by rw [← hq]; simp] at h3
      exact h3
    · rw [List.pairwise_iff_getElem]
      intro i j hi hj hij
      have h3 := hs i j (Nat.zero_le _) hij (by rw [← hd']; simpa using hj)
      rw [ltTn] at h3
      have hi' : i < d'.size := by simpa using hi
      have hj' : j < d'.size := by simpa using hj
      rw [getElem!_pos d' i hi', getElem!_pos d' j hj'] at h3
      simp only [decide_eq_false_iff_not] at h3
      simp only [Array.getElem_toList]
      omega
    · refine ow_up (own_cells hb hgp hnc hcm (by simp [putCells, hcs]) (by rw [wcs_len]; simp [hd']) (fun j u hu => ?_)) hup
      have hj : j < q * 4 := by
        have := (List.getElem?_eq_some_iff.1 hu).1
        rw [wcs_len] at this
        simpa [hd'] using this
      have hi : j / 4 < d'.size := by omega
      have h3 := (hHp.cell (i := j / 4) (c := j % 4) hi (by omega)).1
      rw [show 0 + j / 4 * 4 + j % 4 = j by omega] at h3
      rw [h3, ← hu]
      have h4 := wcs_get d'.toList (i := j / 4) (c := j % 4) (by simpa using hi) (by omega)
      rw [show j / 4 * 4 + j % 4 = j by omega] at h4
      rw [h4]
      have h5 : j % 4 < (wlc d'.toList[j / 4]).length := by simp [wlc]; omega
      rw [List.getElem?_eq_getElem h5, getElem!_pos d' (j / 4) hi]
      have h6 : (wlc d'[j / 4])[j % 4]! = (wlc d'[j / 4])[j % 4]'(by simpa using h5) := getElem!_pos (wlc d'[j / 4]) (j % 4) _
      rw [h6]
      simp
    · exact grown_up hgb hup
end Go.Proofs.YtaibjeehjhlicaaGreatDoor
