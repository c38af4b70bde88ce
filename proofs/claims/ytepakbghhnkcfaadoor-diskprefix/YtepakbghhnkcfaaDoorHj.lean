import Derived.Test.YtepakbghhnkcfaaDoorHh
import Derived.Shelf.SlSortCmp.NoneTotal
import Derived.Shelf.SlSortCmp.WholeK
import Derived.Shelf.SlicesG.Cmp
import Derived.Test.YtepakbghhnkcfaaDoorSo
namespace Go.Proofs.YtepakbghhnkcfaaDoor
open Go.RowKit Go.Shelf TextNum ModNum Go.Lib Go.Sort
set_option maxRecDepth 100000 in
set_option maxHeartbeats 1000000 in
theorem cmp4_walk (x y : WL) (W : World) : Calls Tryd.prog 80 #[.agg (wlc x).toArray, .agg (wlc y).toArray] W fun e w' => e = .returned (.int .i64 (Lib.compareInt x.l.tn y.l.tn)) ∧ ∃ q os', w' = grow (W.drewN q) os' := by
  have hcon := fun W' => AnyG.cmp_Compare_int Tryd.laysCmp x.l.tn y.l.tn W'
  change ∀ W', Calls Tryd.prog 81 _ _ _ at hcon
  have HC := Hid.of hcon
  clear hcon
  unfold wlc
  generalize Lib.compareInt x.l.tn y.l.tn = r at *
  go_enter Tryd.func80, Tryd.ntmps80
  go_wp2_with fail
  refine (HC.out _).mono ?_
  rintro e w' ⟨rfl, rfl⟩
  dsimp only
  go_wp2
  go_ret
  exact ⟨rfl, 0, _, by rw [alloc_eq_grow, alloc_eq_grow, grow_grow]; rfl⟩
theorem ltTn (x y : WL) : ltOf (fun x y : WL => Lib.compareInt x.l.tn y.l.tn) x y = decide (x.l.tn < y.l.tn) := by
  unfold ltOf Lib.compareInt
  by_cases h1 : x.l.tn < y.l.tn
  · simp [h1]
  · by_cases h2 : y.l.tn < x.l.tn <;> simp [h1, h2]
theorem swoTn : SWO (ltOf fun x y : WL => Lib.compareInt x.l.tn y.l.tn) where
  irrefl x := by rw [ltTn]; simp
  trans x y z h1 h2 := by rw [ltTn] at *; simp at *; omega
  ntrans x y z h1 h2 := by rw [ltTn] at *; simp at *; omega
set_option maxRecDepth 100000 in
theorem aggLeft (w : World) : (isAgg 125).run Tryd.prog w = .ok true w := by kernel_rfl
set_option maxRecDepth 100000 in
theorem sizeLeft (w : World) : (Go.sizeOf 125).run Tryd.prog w = .ok 4 w := by kernel_rfl
theorem wcs_get : ∀ (ws : List WL) {i c : Nat} (hi : i < ws.length), c < 4 → (wcs ws)[i * 4 + c]? = (wlc ws[i])[c]?
  | x :: r, 0, c, _, hc => by
    show (wlc x ++ wcs r)[0 * 4 + c]? = _
    rw [Nat.zero_mul, Nat.zero_add, List.getElem?_append_left (by simpa [wlc] using hc)]
    rfl
  | x :: r, i + 1, c, hi, hc => by
    have ih := wcs_get r (i := i) (c := c) (by simpa using hi) hc
    show (wlc x ++ wcs r)[(i + 1) * 4 + c]? = _
    rw [List.getElem?_append_right (by simp [wlc]; omega), show (i + 1) * 4 + c - (wlc x).length = i * 4 + c by simp [wlc]; omega, ih]
    rfl
theorem own_cells {w : World} {N g cap q : Nat} {e : TypeId} {cur : Array Value} {xs : List Value} (hb : N ≤ g) (hg : w.heap[g]? = some (.cells cur e (0, 0))) (hq : q ≤ cap) (hc : cap ≤ maxLen) (hs : cur.size = cap * 4) (hl : xs.length = q * 4) (h : ∀ j u, xs[j]? = some u → w.cell? ⟨g, j, none⟩ = some u) : w.ownsRow N e 4 (.slice (some ⟨g, 0, none⟩) q cap) q xs := by
  refine ⟨hl, .inr ⟨g, cap, cur, rfl, hb, hg, hq, hc, hs, ?_⟩⟩
  apply List.ext_getElem?
  intro j
  by_cases hj : j < q * 4
  · rw [List.getElem?_take, if_pos hj]
    have hx : j < xs.length := by omega
    have h1 := h j _ (List.getElem?_eq_getElem hx)
    rw [cell_of_row w g j cur _ (0, 0) hg] at h1
    rw [List.getElem?_eq_getElem hx, ← h1]
    simp
  · rw [List.getElem?_eq_none (by rw [List.length_take]; omega), List.getElem?_eq_none (by omega)]
set_option maxHeartbeats 1000000 in
theorem Sort4_walk (N q : Nat) (v : Value) (ws : List WL) (w : World) (h : w.ownsRow N 125 4 v q (wcs ws)) (hq : ws.length = q) (hl : q ≤ 1000000) :
    Calls Tryd.prog 79 #[v, .func (.func 80) #[] #[]] w fun e w' => e = .returned (.tuple #[]) ∧ ∃ ws', List.Perm ws' ws ∧ List.Pairwise (fun x y : WL => x.l.tn ≤ y.l.tn) ws' ∧ w'.ownsRow N 125 4 v q (wcs ws') ∧ w.grownBy w' v.ownBlock := by
  rcases h.2 with ⟨rfl, h0⟩ | ⟨g, cap, cur, rfl, hb, hg, hnc, hcm, hcs, ht⟩
  · have : ws = [] := List.eq_nil_of_length_eq_zero (by omega)
    subst this
    subst h0
    refine (AnyF.slices_SortFunc_none Tryd.laysSF none 0 _ w).mono ?_
    rintro e w' ⟨rfl, rfl⟩
    exact ⟨rfl, [], List.Perm.refl _, List.Pairwise.nil, h, grown_refl _ _⟩
  · haveI : Inhabited WL := ⟨⟨0, ⟨0, [], 0, 0, .bool false, 0⟩⟩⟩
    have hH : HoldsK wlc 4 w g 0 ws.toArray := fun t htt => by
      rw [size_flatK] at htt
      have htt2 : t < ws.length * 4 := by simpa using htt
      have hi : t / 4 < ws.length := by omega
      have h1 := World.ownsRow.cells h rfl t ((flatK wlc 4 ws.toArray)[t]!) (by
        rw [get_flatK _ _ _ _ htt]
        have h2 := wcs_get ws (i := t / 4) (c := t % 4) hi (by omega)
        rw [show t / 4 * 4 + t % 4 = t by omega] at h2
        rw [h2, getElem!_pos _ (t / 4) (by simpa using hi)]
        have h3 : t % 4 < (wlc ws[t / 4]).length := by simp [wlc]; omega
        simp only [List.getElem_toArray]
        have h4 : (wlc ws[t / 4])[t % 4]! = (wlc ws[t / 4])[t % 4] := getElem!_pos (wlc ws[t / 4]) (t % 4) h3
        rw [h4, List.getElem?_eq_getElem h3])
      rw [Addr.add_lit] at h1
      exact ⟨by rw [h1]; rfl, by simp [World.frozen?, hg]⟩
    have hlt : g < w.heap.size := (Array.getElem?_eq_some_iff.1 hg).1
    have eg : ∀ args w, (callFunc 80 args).run Tryd.prog w = .ok (.enter 80 args) w := enters_of Tryd.func80 (by kernel_rfl) rfl
    have hcon := AnyQ.slices_SortFunc Tryd.laysSF 4 aggLeft sizeLeft wlc (fun _ => rfl) (fun x v hv => wlc_one x v hv) (fun x y : WL => Lib.compareInt x.l.tn y.l.tn) swoTn 80 #[] g 0 cap ws.toArray w eg (fun m os dk _ x y => cmp4_walk x y _) hH hlt (by simp; omega)
    rw [show ws.toArray.size = q by simpa using hq] at hcon
    refine Calls.mono hcon ?_
    rintro e w' ⟨rfl, d', n, os, hp, hs, rfl⟩
    have hd' : d'.size = q := by rw [hp.1]; simpa using hq
    have hup : Up (putRowK wlc 4 (Sort.ahead w n) g 0 d') (sortWorldK wlc 4 w g 0 n d' os) := ⟨rfl, rfl, rfl, by simp [sortWorldK, grow], fun k hk => heap_grow_old _ os hk⟩
    have hgb : w.grownBy (putRowK wlc 4 (Sort.ahead w n) g 0 d') (some g) := ⟨rfl, rfl, rfl, by unfold putRowK; rw [size_putRow]; exact Nat.le_refl _, fun k hk hne => by
      have hne2 : ¬ g = k := fun e => hne (by rw [← e])
      simp [putRowK, putRow, mapBlock, Array.getElem?_modify, hne2, Sort.ahead]⟩
    have hHp : HoldsK wlc 4 (putRowK wlc 4 (Sort.ahead w n) g 0 d') g 0 d' := holdsK_putRowK wlc 4 _ g 0 ws.toArray d' (holdsK_ahead wlc 4 w n g 0 _ hH) (by rw [hd']; simpa using hq.symm)
    have hgp : (putRowK wlc 4 (Sort.ahead w n) g 0 d').heap[g]? = some (.cells (putCells id 0 (flatK wlc 4 d') cur) 125 (0, 0)) := by
      simp [putRowK, putRow, mapBlock, Array.getElem?_modify, Sort.ahead, hg, onCells]
    refine ⟨rfl, d'.toList, ?_, ?_, ?_, ?_⟩
    · have h3 := hp.2.2
      rw [show d'.extract 0 q = d' by rw [← hd']; simp, show ws.toArray.extract 0 q = ws.toArray by rw [← hq]; simp] at h3
      exact h3
    · rw [List.pairwise_iff_getElem]
      intro i j hi hj hij
      have h3 := hs i j (Nat.zero_le _) hij (by rw [← hd']; simpa using hj)
      rw [ltTn] at h3
      have hi' : i < d'.size := by simpa using hi
      have hj' : j < d'.size := by simpa using hj
      rw [getElem!_pos d' i hi', getElem!_pos d' j hj'] at h3
      simp only [decide_eq_false_iff_not] at h3
      simp only [Array.getElem_toList]
      omega
    · refine ow_up (own_cells hb hgp hnc hcm (by simp [putCells, hcs]) (by rw [wcs_len]; simp [hd']) (fun j u hu => ?_)) hup
      have hj : j < q * 4 := by
        have := (List.getElem?_eq_some_iff.1 hu).1
        rw [wcs_len] at this
        simpa [hd'] using this
      have hi : j / 4 < d'.size := by omega
      have h3 := (hHp.cell (i := j / 4) (c := j % 4) hi (by omega)).1
      rw [show 0 + j / 4 * 4 + j % 4 = j by omega] at h3
      rw [h3, ← hu]
      have h4 := wcs_get d'.toList (i := j / 4) (c := j % 4) (by simpa using hi) (by omega)
      rw [show j / 4 * 4 + j % 4 = j by omega] at h4
      rw [h4]
      have h5 : j % 4 < (wlc d'.toList[j / 4]).length := by simp [wlc]; omega
      rw [List.getElem?_eq_getElem h5, getElem!_pos d' (j / 4) hi]
      have h6 : (wlc d'[j / 4])[j % 4]! = (wlc d'[j / 4])[j % 4]'(by simpa using h5) := getElem!_pos (wlc d'[j / 4]) (j % 4) _
      rw [h6]
      simp
    · exact grown_up hgb hup
end Go.Proofs.YtepakbghhnkcfaaDoor
