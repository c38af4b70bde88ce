import Derived.Shelf.SlSortCmp.WholeK
import Derived.Shelf.SlSortCmp.NoneTotal
import Derived.Ground.SlsfProg
import Derived.Ground.NamesProg
import Derived.Test.YtnciglpdjpckiaaGreatDoorRows
import Derived.Test.YtnciglpdjpckiaaGreatDoorKV
import Derived.Test.YtnciglpdjpckiaaGreatDoorK6
import Derived.Test.YtnciglpdjpckiaaGreatDoorKY
import Derived.Test.YtnciglpdjpckiaaGreatDoorKD
import Derived.SizedLaws
import Derived.ProofKit
import Derived.OpenShut
import Derived.ChangeSame
import Derived.WideKeyArgs
import Derived.DataReads
namespace Go.Proofs
open Go.Shelf
def Tryz.laysSF_ren : Go.Shelf.Ren := ⟨fun | 6 => 21 | 15 => 46 | 14 => 45 | 28 => 88 | 29 => 89 | 20 => 80 | 21 => 81 | 22 => 82 | 23 => 83 | 24 => 84 | 25 => 85 | 26 => 86 | 27 => 87 | 46 => 126 | 47 => 127 | 48 => 128 | 49 => 129 | 50 => 130 | 57 => 155 | n => n, fun | 22 => 51 | 24 => 56 | 25 => 60 | 3 => 3 | 39 => 87 | 0 => 0 | 53 => 125 | 55 => 127 | 4 => 4 | 46 => 118 | 45 => 117 | 50 => 122 | 5 => 5 | 9 => 9 | 66 => 145 | 70 => 149 | 76 => 164 | 77 => 165 | n => n, fun | n => n⟩
theorem Tryz.laysSF : Go.Proofs.SlLaysF0.n6 Tryz.prog Tryz.laysSF_ren := {
  mixed := by kernel_rfl
  f6 := ⟨Tryz.f21.name, by decide, Tryz.func21.trans (congrArg some (by kernel_rfl))⟩
  f14 := ⟨Tryz.f45.name, by decide, Tryz.func45.trans (congrArg some (by kernel_rfl))⟩
  f15 := Tryz.func46.trans (congrArg some (by kernel_rfl))
  f20 := ⟨Tryz.f80.name, by decide, Tryz.func80.trans (congrArg some (by kernel_rfl))⟩
  f21 := ⟨Tryz.f81.name, by decide, Tryz.func81.trans (congrArg some (by kernel_rfl))⟩
  f22 := ⟨Tryz.f82.name, by decide, Tryz.func82.trans (congrArg some (by kernel_rfl))⟩
  f23 := ⟨Tryz.f83.name, by decide, Tryz.func83.trans (congrArg some (by kernel_rfl))⟩
  f24 := ⟨Tryz.f84.name, by decide, Tryz.func84.trans (congrArg some (by kernel_rfl))⟩
  f25 := ⟨Tryz.f85.name, by decide, Tryz.func85.trans (congrArg some (by kernel_rfl))⟩
  f26 := ⟨Tryz.f86.name, by decide, Tryz.func86.trans (congrArg some (by kernel_rfl))⟩
  f27 := ⟨Tryz.f87.name, by decide, Tryz.func87.trans (congrArg some (by kernel_rfl))⟩
  f28 := Tryz.func88.trans (congrArg some (by kernel_rfl))
  f29 := Tryz.func89.trans (congrArg some (by kernel_rfl))
  f46 := ⟨Tryz.f126.name, by decide, Tryz.func126.trans (congrArg some (by kernel_rfl))⟩
  f47 := Tryz.func127.trans (congrArg some (by kernel_rfl))
  f48 := Tryz.func128.trans (congrArg some (by kernel_rfl))
  f49 := ⟨Tryz.f129.name, by decide, Tryz.func129.trans (congrArg some (by kernel_rfl))⟩
  f50 := ⟨Tryz.f130.name, by decide, Tryz.func130.trans (congrArg some (by kernel_rfl))⟩
  f57 := ⟨Tryz.f155.name, by decide, Tryz.func155.trans (congrArg some (by kernel_rfl))⟩
  t0 := Tryz.underlying0
  a0 := Tryz.isAgg0
  z0 := Tryz.sizeOf0
  v0 := Tryz.zeroValue0
  t3 := Tryz.underlying3
  a3 := Tryz.isAgg3
  z3 := Tryz.sizeOf3
  v3 := Tryz.zeroValue3
  t4 := Tryz.underlying4
  a4 := Tryz.isAgg4
  z4 := Tryz.sizeOf4
  v4 := Tryz.zeroValue4
  t5 := Tryz.underlying5
  a5 := Tryz.isAgg5
  z5 := Tryz.sizeOf5
  v5 := Tryz.zeroValue5
  t9 := Tryz.underlying9
  a9 := Tryz.isAgg9
  z9 := Tryz.sizeOf9
  v9 := Tryz.zeroValue9
  t22 := Tryz.underlying51
  a22 := Tryz.isAgg51
  z22 := Tryz.sizeOf51
  v22 := Tryz.zeroValue51
  t25 := Tryz.underlying60
  a25 := Tryz.isAgg60
  z25 := Tryz.sizeOf60
  v25 := Tryz.zeroValue60
  t39 := Tryz.underlying87
  a39 := Tryz.isAgg87
  z39 := Tryz.sizeOf87
  v39 := Tryz.zeroValue87
  t45 := Tryz.underlying117
  a45 := Tryz.isAgg117
  z45 := Tryz.sizeOf117
  v45 := Tryz.zeroValue117
  t46 := Tryz.underlying118
  a46 := Tryz.isAgg118
  z46 := Tryz.sizeOf118
  v46 := Tryz.zeroValue118
  t50 := Tryz.underlying122
  a50 := Tryz.isAgg122
  z50 := Tryz.sizeOf122
  v50 := Tryz.zeroValue122
  t53 := Tryz.underlying125
  a53 := Tryz.isAgg125
  z53 := Tryz.sizeOf125
  v53 := Tryz.zeroValue125
  t55 := Tryz.underlying127
  a55 := Tryz.isAgg127
  z55 := Tryz.sizeOf127
  v55 := Tryz.zeroValue127
  t66 := Tryz.underlying145
  a66 := Tryz.isAgg145
  z66 := Tryz.sizeOf145
  v66 := Tryz.zeroValue145
  t70 := Tryz.underlying149
  a70 := Tryz.isAgg149
  z70 := Tryz.sizeOf149
  v70 := Tryz.zeroValue149
  t76 := Tryz.underlying164
  a76 := Tryz.isAgg164
  z76 := Tryz.sizeOf164
  v76 := Tryz.zeroValue164
  t77 := Tryz.underlying165
  a77 := Tryz.isAgg165
  z77 := Tryz.sizeOf165
  v77 := Tryz.zeroValue165 }
end Go.Proofs
namespace Go.Proofs.YtnciglpdjpckiaaGreatDoor
open Go.RowKit Go.Shelf TextNum ModNum Go.Lib Go.Sort
theorem Ord.swo {α : Type} {f : α → α → Int} (h : Ord f) : SWO (ltOf f) where
  irrefl x := by
    have := h.refl x
    unfold ltOf
    rw [decide_eq_false_iff_not]
    omega
  trans x y z h1 h2 := by
    unfold ltOf at *
    rw [decide_eq_true_iff] at *
    have := h.tr x y z (by omega) (by omega)
    omega
  ntrans x y z h1 h2 := by
    unfold ltOf at *
    rw [decide_eq_false_iff_not] at *
    have := h.tr z y x (by have := h.anti y z; omega) (by have := h.anti x y; omega)
    have := h.anti z x
    omega
/-- an entry's words lie apart from the row -/
def EnOk (w : World) (g : Nat) (x : En) : Prop := SlS w (.slice x.a x.ws.length x.c) x.ws ∧ (∀ b, x.a = some b → b.block ≠ g) ∧ x.ws.length ≤ 1048576
theorem EnOk.nil (w : World) (g : Nat) : EnOk w g zEn := ⟨slS_nil w, (fun b hb => by cases hb), Nat.zero_le _⟩
theorem EnOk.by {w w' : World} {g : Nat} {x : En} (h : EnOk w g x) (hg : w.grownBy w' (some g)) : EnOk w' g x := ⟨h.1.by hg fun k hk e => by
  injection e with e
  cases ha : x.a with
  | none => rw [ha] at hk; cases hk
  | some b =>
    rw [ha] at hk
    have h2 : b.block = k := by injection hk
    exact h.2.1 b ha (h2.trans e.symm), h.2⟩
set_option maxRecDepth 100000 in
theorem aggEn (w : World) : (isAgg 56).run Tryz.prog w = .ok true w := by kernel_rfl
set_option maxRecDepth 100000 in
theorem sizeEn (w : World) : (Go.sizeOf 56).run Tryz.prog w = .ok 7 w := by kernel_rfl
theorem putRow_by {α : Type} [Inhabited α] (enc : α → List Value) (k : Nat) (w : World) (n g : Nat) (d : Array α) : w.grownBy (putRowK enc k (Sort.ahead w n) g 0 d) (some g) := ⟨rfl, rfl, rfl, by unfold putRowK; rw [size_putRow]; exact Nat.le_refl _, fun j hj hne => by
  have hne2 : ¬ g = j := fun e => hne (by rw [← e])
  simp [putRowK, putRow, mapBlock, Array.getElem?_modify, hne2, Sort.ahead]⟩
theorem sort_up {α : Type} [Inhabited α] (enc : α → List Value) (k : Nat) (w : World) (n g : Nat) (d : Array α) (os : Array Obj) : Up (putRowK enc k (Sort.ahead w n) g 0 d) (sortWorldK enc k w g 0 n d os) := ⟨rfl, rfl, rfl, by simp [sortWorldK, grow], fun j hj => heap_grow_old _ os hj⟩
set_option maxHeartbeats 1000000 in
theorem Sort7_walk (w0 : World) (hG : GM w0) (g : Nat) (es : List En) (w : World) (hu : Up w0 w) (hg0 : w0.heap.size ≤ g) (hA : At w g 56 (ecs es)) (hok : ∀ x ∈ es, EnOk w g x) (hl : es.length ≤ 1000000) :
    Calls Tryz.prog 21 #[.slice (some ⟨g, 0, none⟩) es.length es.length, .func (.func 22) #[] #[]] w fun e w' => e = .returned (.tuple #[]) ∧ ∃ es', List.Perm es' es ∧ es'.Pairwise (fun x y => cmpE x y ≤ 0) ∧ At w' g 56 (ecs es') ∧ w.grownBy w' (some g) := by
  obtain ⟨ds, rfl⟩ : ∃ ds : List {x : En // EnOk w g x}, ds.map Subtype.val = es := ⟨es.pmap Subtype.mk hok, by rw [List.map_pmap]; simp⟩
  haveI : Inhabited {x : En // EnOk w g x} := ⟨⟨zEn, EnOk.nil w g⟩⟩
  obtain ⟨enc, henc⟩ : ∃ enc : {x : En // EnOk w g x} → List Value, enc = fun x => en7 x.1 := ⟨_, rfl⟩
  have hk : ∀ x, (enc x).length = 7 := fun x => by rw [henc]; rfl
  have hone : ∀ x, ∀ v ∈ enc x, v.oneCell' = true := fun x v hv => by rw [henc] at hv; exact en7_one x.1 v hv
  have hget : ∀ (d : List {x : En // EnOk w g x}) (j : Nat) (hj : j / 7 < d.length), (ecs (d.map Subtype.val))[j]? = (enc d[j / 7])[j % 7]? := fun d j hj => by
    have h1 := ecs_get (d.map Subtype.val) (i := j / 7) (c := j % 7) (by simpa using hj) (by omega)
    rw [show j / 7 * 7 + j % 7 = j by omega] at h1
    rw [h1, henc]
    simp
  have hgl : ∀ (d : Array {x : En // EnOk w g x}) (j : Nat) (hj : j / 7 < d.size), (ecs (d.toList.map Subtype.val))[j]? = some (enc d[j / 7]!)[j % 7]! := fun d j hj => by
    have h2 := hget d.toList j (by simpa using hj)
    rw [h2]
    simp only [Array.getElem_toList]
    rw [getElem!_pos d (j / 7) hj]
    have h3 : j % 7 < (enc d[j / 7]).length := by rw [hk]; omega
    rw [List.getElem?_eq_getElem h3, getElem!_pos (enc d[j / 7]) (j % 7) h3]
  have hH : HoldsK enc 7 w g 0 ds.toArray := fun t htt => by
    rw [size_flatK] at htt
    have htt2 : t < ds.length * 7 := by simpa using htt
    have hi : t / 7 < ds.toArray.size := by simp; omega
    refine ⟨?_, by rw [Nat.zero_add]; exact hA.thaw t⟩
    rw [Nat.zero_add]
    refine hA.cell ?_
    rw [get_flatK _ _ _ _ htt]
    exact hgl ds.toArray t hi
  have hlt : g < w.heap.size := lt_of_at hA
  have eg : ∀ args w, (callFunc 22 args).run Tryz.prog w = .ok (.enter 22 args) w := enters_of Tryz.func22 (by kernel_rfl) rfl
  have hcmp : CmpLays Tryz.prog 22 #[] enc 7 (fun x y => cmpE x.1 y.1) g 0 ds.toArray.size w := fun m os dk _ x y => by
    have hb := grown_up (putRow_by enc 7 w m g dk) (sort_up enc 7 w m g dk os)
    have hx := x.2.by hb
    have hy := y.2.by hb
    have := compareEntries_walk x.1 y.1 (sortWorldK enc 7 w g 0 m dk os) (hG.up (hu.by hb (fun k hk => by injection hk with hk; omega))) hx.1 hy.1 hx.2.2 hy.2.2
    rw [henc] at this ⊢
    exact this.mono fun e w' ⟨h1, h2⟩ => ⟨h1, h2.grow⟩
  have hcon := AnyQ.slices_SortFunc Tryz.laysSF 7 aggEn sizeEn enc hk hone (fun x y => cmpE x.1 y.1) (ord_E.pull Subtype.val).swo 22 #[] g 0 ds.length ds.toArray w eg hcmp hH hlt (by simp at hl ⊢; omega)
  have hsz : ds.toArray.size = ds.length := by simp
  rw [List.length_map]
  rw [show (ds.toArray.size : Nat) = ds.length from hsz] at hcon
  refine Calls.mono hcon ?_
  rintro e w' ⟨rfl, d', n, os, hp, hs, rfl⟩
  have hd' : d'.size = ds.length := by rw [hp.1]; simp
  have hgb := putRow_by enc 7 w n g d'
  have hHp : HoldsK enc 7 (putRowK enc 7 (Sort.ahead w n) g 0 d') g 0 d' := holdsK_putRowK enc 7 _ g 0 ds.toArray d' (holdsK_ahead enc 7 w n g 0 _ hH) (by rw [hd']; simp)
  have hA0 : w.heap[g]? = some (.cells (ecs (ds.map Subtype.val)).toArray 56) := hA
  have hgp : (putRowK enc 7 (Sort.ahead w n) g 0 d').heap[g]? = some (.cells (putCells id 0 (flatK enc 7 d') (ecs (ds.map Subtype.val)).toArray) 56 (0, 0)) := by
    simp [putRowK, putRow, mapBlock, Array.getElem?_modify, Sort.ahead, hA0, onCells]
  have hAp : At (putRowK enc 7 (Sort.ahead w n) g 0 d') g 56 (ecs (d'.toList.map Subtype.val)) := by
    unfold At
    rw [hgp]
    congr 2
    apply Array.ext_getElem?
    intro j
    by_cases hj : j < d'.size * 7
    · have hi : j / 7 < d'.size := by omega
      have h3 := (hHp.cell (i := j / 7) (c := j % 7) hi (by omega)).1
      rw [show 0 + j / 7 * 7 + j % 7 = j by omega] at h3
      have h4 := cell_of_row (putRowK enc 7 (Sort.ahead w n) g 0 d') g j _ 56 (0, 0) hgp
      rw [h4] at h3
      rw [h3, List.getElem?_toArray, hgl d' j hi]
    · rw [Array.getElem?_eq_none (by simp [putCells, ecs_len]; omega), Array.getElem?_eq_none (by simp [ecs_len]; omega)]
  refine ⟨rfl, d'.toList.map Subtype.val, ?_, ?_, hAp.up (sort_up enc 7 w n g d' os), grown_up hgb (sort_up enc 7 w n g d' os)⟩
  · have h3 := hp.2.2
    rw [show d'.extract 0 ds.length = d' by rw [← hd']; simp, show ds.toArray.extract 0 ds.length = ds.toArray by simp] at h3
    exact h3.map _
  · rw [List.pairwise_map, List.pairwise_iff_getElem]
    intro i j hi hj hij
    have h3 := hs i j (Nat.zero_le _) hij (by rw [← hd']; simpa using hj)
    have hi' : i < d'.size := by simpa using hi
    have hj' : j < d'.size := by simpa using hj
    rw [getElem!_pos d' i hi', getElem!_pos d' j hj'] at h3
    unfold ltOf at h3
    rw [decide_eq_false_iff_not] at h3
    simp only [Array.getElem_toList]
    have h4 : ¬ cmpE d'[j].1 d'[i].1 < 0 := h3
    have := ord_E.anti d'[j].1 d'[i].1
    omega
end Go.Proofs.YtnciglpdjpckiaaGreatDoor
namespace Go.Proofs.YtnciglpdjpckiaaGreatDoor
open Go.RowKit Go.Shelf TextNum ModNum
abbrev kle (s t : List UInt8) : Prop := kcm s t ≤ 0
theorem kle_tr {a b c : List UInt8} (h : kle a b) (k : kle b c) : kle a c := (ord_K.tr a b c h k).1
theorem kle_of {a b : List UInt8} (h : ¬ kcm b a < 0) : kle a b := by
  have := ord_K.anti a b
  show kcm a b ≤ 0
  omega
theorem ins_nil {x : List UInt8} {B : List (List UInt8)} (h : B.Pairwise kle) (hx : ∀ b ∈ B, kle x b) : (x :: B).Pairwise kle := List.pairwise_cons.2 ⟨hx, h⟩
theorem ins_stop {A B : List (List UInt8)} {y x : List UInt8} (h : ((A ++ [y]) ++ B).Pairwise kle) (hx : ∀ b ∈ B, kle x b) (hn : ¬ kcm x y < 0) : ((A ++ [y]) ++ x :: B).Pairwise kle := by
  obtain ⟨h1, h2, h3⟩ := List.pairwise_append.1 h
  refine List.pairwise_append.2 ⟨h1, ins_nil h2 hx, fun a ha b hb => ?_⟩
  rcases List.mem_cons.1 hb with rfl | hb
  · rcases List.mem_append.1 ha with ha | ha
    · exact kle_tr ((List.pairwise_append.1 h1).2.2 a ha y (by simp)) (kle_of hn)
    · rw [List.mem_singleton.1 ha]; exact kle_of hn
  · exact h3 a ha b hb
theorem ins_swap {α : Type} (A B : List α) (x y : α) : ((A ++ [y] ++ x :: B).set (A.length + 1) y).set A.length x = A ++ x :: y :: B := by
  rw [List.append_assoc]
  simp
theorem ins_at {α : Type} (A B : List α) (x y : α) : (A ++ [y] ++ x :: B)[A.length + 1]? = some x ∧ (A ++ [y] ++ x :: B)[A.length]? = some y := by
  constructor <;> simp
/-- the first error of a list of keys -/
def kE : List (List UInt8) → Int
  | [] => 0
  | s :: r => if pkE s = 0 then kE r else pkE s
theorem kE_take {l : List (List UInt8)} : ∀ {i : Nat}, (∀ j (h : j < l.length), j < i → pkE l[j] = 0) → kE l = kE (l.drop i)
  | 0, _ => by simp
  | i + 1, h => by
    cases l with
    | nil => simp
    | cons s r =>
      have h0 : pkE s = 0 := h 0 (by simp) (by omega)
      show (if pkE s = 0 then kE r else pkE s) = _
      rw [if_pos h0, List.drop_succ_cons]
      exact kE_take fun j hj hji => h (j + 1) (by simpa using hj) (by omega)
theorem kE_all {l : List (List UInt8)} (h : ∀ s ∈ l, pkE s = 0) : kE l = 0 := by
  induction l with
  | nil => rfl
  | cons s r ih =>
    show (if pkE s = 0 then kE r else pkE s) = _
    rw [if_pos (h s (by simp))]
    exact ih fun t ht => h t (by simp [ht])
theorem kE_at {l : List (List UInt8)} {i : Nat} (hi : i < l.length) (h : ∀ s ∈ l.take i, pkE s = 0) (hn : pkE l[i] ≠ 0) : kE l = pkE l[i] := by
  rw [kE_take (i := i) fun j hj hji => h l[j] (List.mem_iff_getElem.2 ⟨j, by simp; omega, by simp⟩), List.drop_eq_getElem_cons hi]
  show (if pkE l[i] = 0 then _ else _) = _
  rw [if_neg hn]
theorem kE_zero : ∀ {l : List (List UInt8)}, kE l = 0 → ∀ s ∈ l, pkE s = 0
  | s :: r, h, t, ht => by
    have h' : (if pkE s = 0 then kE r else pkE s) = 0 := h
    split at h'
    · rename_i h0
      rcases List.mem_cons.1 ht with rfl | ht
      · exact h0
      · exact kE_zero h' t ht
    · contradiction
/-- what Sort says of a list of keys -/
def SRT (ks : List (List UInt8)) (w : World) (e : Ending) (w' : World) : Prop := ∃ v er ls, e = .returned (.tuple #[v, .int .i64 er]) ∧ er = (if 4096 < ks.length then 2 else kE ks) ∧ (er ≠ 0 → ls = []) ∧ (er = 0 → List.Perm ls ks ∧ ls.Pairwise kle) ∧ OwnS w' w.heap.size v ls ∧ Up w w'
theorem SRT.one {ks : List (List UInt8)} {a b : List (List UInt8)} (h0 : kE ks = 0) (ha : List.Perm a ks ∧ a.Pairwise kle) (hb : List.Perm b ks ∧ b.Pairwise kle) : a = b :=
  sorted_one (fun s hs => pkE_at (kE_zero h0 s hs)) ha.1 hb.1 ha.2 hb.2
theorem OwnS.row {w : World} {B : Nat} {v : Value} {xs : List (List UInt8)} (h : OwnS w B v xs) (hne : xs ≠ []) : ∃ g cap, v = .slice (some ⟨g, 0, none⟩) xs.length cap ∧ B ≤ g ∧ g < w.heap.size ∧ xs.length ≤ cap ∧ (∀ i (hi : i < xs.length), w.cell? ⟨g, i, none⟩ = some (.string ⟨xs[i].toArray⟩)) ∧ ∀ i, w.frozen? ⟨g, i, none⟩ = false := by
  have h2 := h.2
  rcases h2 with ⟨rfl, e⟩ | ⟨g, cap, cur, rfl, hbg, hg, hnc, _⟩
  · exact absurd (List.eq_nil_of_length_eq_zero e) hne
  · refine ⟨g, cap, rfl, hbg, (Array.getElem?_eq_some_iff.1 hg).1, hnc, fun i hi => ?_, fun i => by simp [World.frozen?, hg]⟩
    have := World.ownsRow.cells h (g := g) rfl i _ (cst_get hi)
    rwa [add_plain, Nat.zero_add] at this
theorem OwnS.put {w : World} {B g n cap : Nat} {xs : List (List UInt8)} (h : OwnS w B (.slice (some ⟨g, 0, none⟩) n cap) xs) (hn : xs.length = n) (i : Nat) (y : List UInt8) : OwnS (w.setCell ⟨g, i, none⟩ (.string ⟨y.toArray⟩)) B (.slice (some ⟨g, 0, none⟩) n cap) (xs.set i y) := by
  unfold OwnS at *
  rw [hn] at h
  have := (World.ownsRow.stored h i (.string ⟨y.toArray⟩)).1
  rw [List.length_set, hn, List.map_set]
  exact this
end Go.Proofs.YtnciglpdjpckiaaGreatDoor
namespace Go.Proofs.YtnciglpdjpckiaaGreatDoor
open Go.RowKit Go.Shelf TextNum ModNum
theorem wpList_val7 {ops : Array Oper} {Q : Exit → Act → World → Prop} {rest : List Oper} {o : Oper} {a : Act} {w : World} (v : Value) (hgd : o.guard = none) (hy : (execOp a.eval o).run Tryz.prog w = .ok (.value v) w)
    (h : wpList Tryz.prog ops Q rest (a.put o.dst v) w) : wpList Tryz.prog ops Q (o :: rest) a w :=
  wpList_plain hgd fun K hK => by
    unfold Oper.wp
    rw [hy]
    exact hK _ _ h
theorem exec_idxE {o : Oper} {ρ : Operand → Value} {x y : Operand} {w : World} {b n c : Nat} (i : Nat) (hi : i < n) (ho : o.op = .indexAddr 51 x y) (hx : ρ x = .slice (some ⟨b, 0, none⟩) n c) (hy : ρ y = .int .i64 (i : Int)) : (execOp ρ o).run Tryz.prog w = .ok (.value (.pointer (some ⟨b, i * 7, none⟩))) w := by
  have hi' : (i : Int) < (n : Int) := by omega
  unfold execOp
  simp only [ho, hx, hy]
  go_simp
theorem Tryz.infoEn : (Tryz.prog.info? 56).map (fun i => (i.zero, i.size, i.bytes)) = some (some (.agg z7.toArray), 7, 112) := by kernel_rfl
theorem wpList_mkE {ops : Array Oper} {rest : List Oper} {o : Oper} {a : Act} {w : World} {Q : Exit → Act → World → Prop} (hg : o.guard = none) (l c : Operand) (hop : o.op = Op.makeSlice 51 l c)
    (n : Nat) (hl : a.eval l = .int .i64 (n : Int)) (hc : a.eval c = .int .i64 (n : Int)) (hn : n ≤ 4096)
    (hK : ∀ w' cs, At w' w.heap.size 56 cs → cs.length = n * 7 → Up w w' → wpList Tryz.prog ops Q rest (a.put o.dst (.slice (some ⟨w.heap.size, 0, none⟩) n n)) w') : wpList Tryz.prog ops Q (o :: rest) a w := by
  obtain ⟨i0, hi, hz0, hz1, hz2⟩ := info_parts Tryz.infoEn
  refine wpList_make_full w hg l c 51 hop w.heap.size 56 i0 (.agg z7.toArray) 7 Tryz.underlying51 hi hz0 hz1 .i64 .i64 n n n hl hc rfl rfl (by rw [hz2]; omega) (by unfold maxLen; omega) (Nat.le_refl _) ?_
  intro w' h1 h2
  rcases h1.2 with ⟨h4, _⟩ | ⟨g, cap, cur, h4, hb, hg, hnc, hcm, hcs, ht⟩
  · cases h4
  · simp only [Value.slice.injEq, Option.some.injEq, Addr.mk.injEq, and_true, true_and] at h4
    obtain ⟨rfl, rfl⟩ := h4
    exact hK w' cur.toList (by unfold At; simpa using hg) (by simpa using hcs) ((Below.refl _ w).grown h2 (Nat.le_refl _) (fun k hk => by cases hk))
theorem wpList_mkS {ops : Array Oper} {rest : List Oper} {o : Oper} {a : Act} {w : World} {Q : Exit → Act → World → Prop} (hg : o.guard = none) (l c : Operand) (hop : o.op = Op.makeSlice 22 l c)
    (n : Nat) (hl : a.eval l = .int .i64 (n : Int)) (hc : a.eval c = .int .i64 (n : Int)) (hn : n ≤ 4096)
    (hK : ∀ w' ls, OwnS w' w.heap.size (.slice (some ⟨w.heap.size, 0, none⟩) n n) ls → ls.length = n → Up w w' → wpList Tryz.prog ops Q rest (a.put o.dst (.slice (some ⟨w.heap.size, 0, none⟩) n n)) w') : wpList Tryz.prog ops Q (o :: rest) a w := by
  obtain ⟨i0, hi, hz0, hz1, hz2⟩ := info_parts Tryz.infoStr
  refine wpList_make_full w hg l c 22 hop w.heap.size 9 i0 (.string ⟨#[]⟩) 1 Tryz.underlying22 hi hz0 hz1 .i64 .i64 n n n hl hc rfl rfl (by rw [hz2]; omega) (by unfold maxLen; omega) (Nat.le_refl _) ?_
  intro w' h1 h2
  refine hK w' (List.replicate n []) ?_ (by simp) ((Below.refl _ w).grown h2 (Nat.le_refl _) (fun k hk => by cases hk))
  rw [show (Value.string ⟨#[]⟩).cells = #[Value.string ⟨#[]⟩] from rfl, Nat.mul_one, toList_madeCells_one] at h1
  simpa [OwnS] using h1
theorem EnOk.up {w w' : World} {g : Nat} {x : En} (h : EnOk w g x) (u : Up w w') : EnOk w' g x := ⟨h.1.up u, h.2⟩
/-- the program's Sort: its answer lies in memory of just its length -/
def SRP (ks : List (List UInt8)) (w : World) (e : Ending) (w' : World) : Prop := ∃ v er ls, e = .returned (.tuple #[v, .int .i64 er]) ∧ er = (if 4096 < ks.length then 2 else kE ks) ∧ (er ≠ 0 → ls = [] ∧ v = .slice none 0 0) ∧ (er = 0 → List.Perm ls ks ∧ ls.Pairwise kle ∧ ∃ g, v = .slice (some ⟨g, 0, none⟩) ls.length ls.length ∧ w.heap.size ≤ g) ∧ OwnS w' w.heap.size v ls ∧ Up w w'
theorem SRP.no {ks : List (List UInt8)} {k : Int} {w w' : World} (h : k = (if 4096 < ks.length then 2 else kE ks)) (hk : k ≠ 0) (u : Up w w') : SRP ks w (.returned (.tuple #[.slice none 0 0, .int .i64 k])) w' :=
  ⟨_, k, [], rfl, h, fun _ => ⟨rfl, rfl⟩, fun h0 => absurd h0 hk, ownS_nil _ _, u⟩
/-- what the first loop keeps -/
structure ES (w wr : World) (g : Nat) (ks : List (List UInt8)) (i : Nat) (ens : List En) (R : List Value) : Prop where
  at_ : At wr g 56 (ecs ens ++ R)
  len : R.length = (ks.length - i) * 7
  up : Up w wr
  ok : ∀ x ∈ ens, EnOk wr g x ∧ EnF x x.key ∧ 64 ∈ x.key
  keys : ens.map En.key = ks.take i
  good : ∀ s ∈ ks.take i, pkE s = 0
theorem En.size {ens : List En} {ks : List (List UInt8)} {i : Nat} (h : ens.map En.key = ks.take i) (hi : i ≤ ks.length) : ens.length = i := by
  have := congrArg List.length h
  rw [List.length_map, List.length_take] at this
  omega
theorem ES.step {w wr w' : World} {g i : Nat} {ks : List (List UInt8)} {ens : List En} {R : List Value} (h : ES w wr g ks i ens R) (hw : w.heap.size ≤ g) (hi : i < ks.length) (u : Up wr w') (x : En) (hx : EnF x ks[i]) (h0 : pkE ks[i] = 0) (hS : EnOk w' g x) : ES w (w'.setCells g (i * 7) (en7 x)) g ks (i + 1) (ens ++ [x]) (R.drop 7) := by
  have hl := En.size h.keys (Nat.le_of_lt hi)
  have hk := hx.key (pkE_at h0)
  have hA := at_sets (en7 x) (i * 7) (h.at_.up u) (by rw [List.length_append, ecs_len, hl, h.len, en7_len]; omega)
  have hg := grown_sets g (en7 x) (i * 7) w'
  refine ⟨?_, by rw [List.length_drop, h.len]; omega, (h.up.trans u).by hg (fun k hk => by injection hk with hk; omega), ?_, ?_, ?_⟩
  · have e1 : (ecs ens ++ R).take (i * 7) = ecs ens := by rw [List.take_append_of_le_length (by rw [ecs_len, hl]; exact Nat.le_refl _), List.take_of_length_le (by rw [ecs_len, hl]; exact Nat.le_refl _)]
    have e2 : (ecs ens ++ R).drop (i * 7 + (en7 x).length) = R.drop 7 := by
      rw [en7_len, List.drop_append, List.drop_of_length_le (by rw [ecs_len, hl]; omega), List.nil_append, ecs_len, hl, show i * 7 + 7 - i * 7 = 7 by omega]
    rw [e1, e2] at hA
    rw [ecs_app]
    show At _ _ _ (ecs ens ++ (en7 x ++ []) ++ R.drop 7)
    rw [List.append_nil]
    exact hA
  · intro y hy
    rcases List.mem_append.1 hy with hy | hy
    · exact ⟨((h.ok y hy).1.up u).by hg, (h.ok y hy).2⟩
    · rw [List.mem_singleton.1 hy]
      exact ⟨hS.by hg, by rw [hk]; exact hx, by rw [hk]; exact pkE_at h0⟩
  · rw [List.map_append, h.keys, List.take_add_one, List.getElem?_eq_getElem hi]
    simp [hk]
  · intro s hs
    rw [List.take_add_one, List.getElem?_eq_getElem hi] at hs
    rcases List.mem_append.1 hs with hs | hs
    · exact h.good s hs
    · have : s = ks[i] := by simpa using hs
      rw [this]; exact h0
end Go.Proofs.YtnciglpdjpckiaaGreatDoor
namespace Go.Proofs.YtnciglpdjpckiaaGreatDoor
open Go.RowKit Go.Shelf TextNum ModNum
theorem there_mid {w : World} {b : Nat} {t : TypeId} {cs : List Value} (h : At w b t cs) (o n : Nat) (hn : o + n ≤ cs.length) : w.there b o n := fun j hj => by
  have := h.there (o + j) (by omega)
  rw [Nat.zero_add] at this
  exact this
theorem ba_of (l : List UInt8) : ∃ q : ByteArray, q.data.toList = l ∧ (⟨l.toArray⟩ : ByteArray) = q := ⟨⟨l.toArray⟩, rfl, rfl⟩
theorem OwnS.lower {w : World} {B B' : Nat} {v : Value} {xs : List (List UInt8)} (h : OwnS w B v xs) (hB : B' ≤ B) : OwnS w B' v xs := by
  refine ⟨h.1, ?_⟩
  rcases h.2 with e | ⟨g, cap, cur, e, hbg, r⟩
  · exact .inl e
  · exact .inr ⟨g, cap, cur, e, Nat.le_trans hB hbg, r⟩
/-- what the second loop keeps -/
structure FSx (w wr : World) (g B : Nat) (es : List En) (i n : Nat) (ls : List (List UInt8)) : Prop where
  at_ : At wr g 56 (ecs es)
  up : Up w wr
  own : OwnS wr B (.slice (some ⟨B, 0, none⟩) n n) ls
  len : ls.length = n
  keys : ls.take i = (es.map En.key).take i
theorem own_new {w : World} {B n : Nat} {ls : List (List UInt8)} (h : OwnS w B (.slice (some ⟨B, 0, none⟩) n n) ls) : B < w.heap.size := (World.ownsRow.lt h B rfl).2
theorem FSx.step {w wr w' : World} {g B n i : Nat} {es : List En} {ls : List (List UInt8)} (h : FSx w wr g B es i n ls) (hw : w.heap.size ≤ B) (hgB : g ≠ B) (hi : i < n) (he : i < es.length) (u : Up wr w') : FSx w (w'.setCell ⟨B, i, none⟩ (.string ⟨es[i].key.toArray⟩)) g B es (i + 1) n (ls.set i es[i].key) := by
  have hg := grown_set w' ⟨B, i, none⟩ (.string ⟨es[i].key.toArray⟩)
  refine ⟨(h.at_.up u).by hg (fun e => by injection e with e; exact hgB e.symm), (h.up.trans u).by hg (fun k hk => by have hk2 : B = k := (by injection hk); omega), (h.own.up u).put h.len i _, by rw [List.length_set, h.len], ?_⟩
  have h1 : i < (ls.set i es[i].key).length := by rw [List.length_set, h.len]; exact hi
  rw [List.take_add_one, List.take_add_one, List.getElem?_eq_getElem h1, List.getElem?_eq_getElem (by simpa using he), List.getElem_set_self, List.take_set_of_le (Nat.le_refl _), h.keys]
  simp
set_option maxRecDepth 100000 in
set_option maxHeartbeats 4000000 in
theorem Sort_walk (v : Value) (ks : List (List UInt8)) (hsz : ∀ s ∈ ks, s.length ≤ 1048576) (w : World) (hG : GR w) (hS : SlS w v ks) : Calls Tryz.prog 8 #[v] w (SRP ks w) := by
  have HS := Hid.of hS
  have HG := Hid.of hG
  have HSZ := Hid.of hsz
  obtain ⟨a, c, rfl, hcc, _⟩ := id hS
  obtain ⟨n, hn⟩ : ∃ n, ks.length = n := ⟨_, rfl⟩
  have HN := Hid.of hn
  rw [hn] at hcc HS ⊢
  have hccz : (n : Int) ≤ (c : Int) := by omega
  by_cases h4 : 4096 < n
  · have h4z : (4096 : Int) < (n : Int) := by omega
    have HE := Hid.of (show (2 : Int) = (if 4096 < ks.length then 2 else kE ks) by rw [hn, if_pos h4])
    clear hS hn hG hsz h4
    go_enter Tryz.func8, Tryz.ntmps8
    go_wp2
    go_ret2
    exact SRP.no HE.out (by decide) (Up.refl _)
  · have h4z : ¬ (4096 : Int) < (n : Int) := by omega
    have HE := Hid.of (show (if 4096 < ks.length then 2 else kE ks) = kE ks by rw [hn, if_neg h4])
    clear hS hn hG hsz
    go_enter Tryz.func8, Tryz.ntmps8
    go_wp2_with (with_reducible show wpList _ _ _ ({ dst := _, op := Op.makeSlice 51 _ _, type := _, pos := _, after := _, guard := _ } :: _) _ _; refine Shut.out ?_)
    show wpList _ _ _ _ _ _
    refine wpList_mkE rfl _ _ rfl n rfl rfl (by omega) ?_
    intro w1 cs hA1 hc1 u1
    simp only [Act.put, List.setIfInBounds_toArray, List.set_cons_zero, List.set_cons_succ]
    have HI0 := Hid.of (show ES w w1 w.heap.size ks 0 [] cs from ⟨by simpa [ecs] using hA1, by rw [HN.out]; exact hc1, u1, (fun x hx => by cases hx), by simp, (fun s hs => by simp at hs)⟩)
    obtain ⟨g, hg⟩ : ∃ g, w.heap.size = g := ⟨_, rfl⟩
    have HGG := Hid.of hg
    rw [hg] at HI0 ⊢
    clear hA1 hc1 u1 hg
    go_wp2
    go_loopw [5, 6, 7, 8, 20] (fun _ _ _ _ v20 wr => ∃ (i : Nat) (ens : List En) (R : List Value), v20 = .int .i64 (i : Int) ∧ i ≤ n ∧ Hid (ES w wr g ks i ens R)) (fun _ _ _ _ v20 _ => n - (intOf v20).toNat)
    case atStart => exact ⟨0, [], cs, rfl, by omega, HI0⟩
    case round =>
      obtain ⟨i, ens, R, rfl, hi, hI⟩ := hrel
      obtain ⟨wb, hwb⟩ : ∃ wb, wb = wr := ⟨_, rfl⟩
      subst hwb
      by_cases hlt : i < n
      · have hltz : (i : Int) < (n : Int) := by omega
        have hil : i < ks.length := by rw [HN.out]; exact hlt
        obtain ⟨b, off, rfl, hc⟩ := (HS.out.up hI.out.up).get hil
        obtain ⟨s, hs1, hs2⟩ := ba_of ks[i]
        rw [hs2] at hc
        have hss : s.size ≤ 1048576 := by
          rw [← len_of, hs1]
          exact HSZ.out _ (List.getElem_mem hil)
        have HR := fun w' => fun (u : Up w w') => Hid.of (readKey_en s (by omega) w' (HG.out.up u))
        rw [hs1] at HR
        clear hs1 hs2
        go_wp2_with fail
        refine (HR _ hI.out.up).out.mono ?_
        rintro e w2 ⟨x, rfl, hx, u2⟩
        have HX := Hid.of hx
        have HU2 := Hid.of u2
        clear hx u2
        dsimp only
        go_wp2_with (with_reducible show wpList _ _ _ ({ dst := _, op := Op.store 56 _ _, type := _, pos := _, after := _, guard := _ } :: _) _ _; refine Shut.out ?_)
        show wpList _ _ _ _ _ _
        refine wpList_store_at rfl _ _ _ rfl w2.heap.size (at_new w2 56 z7) (en7 x) rfl rfl rfl (by kernel_rfl) (all_oneCell_toArray (en7_one x)) fun w3 hA3 hg3 => ?_
        have HA3 := Hid.of hA3
        have HU3 := Hid.of (show Up w2 w3 from ((Up.refl w2).alloc _).by hg3 (fun k hk => by injection hk with hk; omega))
        clear hA3 hg3
        simp only [Act.put]
        by_cases h0 : pkE ks[i] = 0
        · have HX0 := Hid.of (And.intro h0 (HX.out h0))
          rw [h0]
          have HOK := Hid.of (show EnOk w3 g x from ⟨(HX0.out.2.2.1).up HU3.out, fun b' hb' => by
            have h1 := HX0.out.2.2.2 b' hb'
            have h2 := lt_of_at hI.out.at_
            omega, by
            have h1 := HX0.out.2.1.2.2
            have h2 := vp_ws (bhd 64 ks[i])
            rw [h1] at h2
            simp only at h2
            omega⟩)
          have HT := Hid.of (hI.out.step (by rw [HGG.out]; exact Nat.le_refl _) hil (HU2.out.trans HU3.out) x HX0.out.2.1 HX0.out.1 HOK.out)
          have HTH := Hid.of (there_mid (hI.out.at_.up (HU2.out.trans HU3.out)) (i * 7) 7 (by
            rw [List.length_append, ecs_len, En.size hI.out.keys (Nat.le_of_lt hil), hI.out.len]
            omega))
          clear h0 HX
          generalize hbb : w2.heap.size = b2 at *
          go_wp2_with (with_reducible show wpList _ _ _ ({ dst := _, op := Op.load 56 _, type := _, pos := _, after := _, guard := _ } :: _) _ _; refine Shut.out ?_)
          show wpList _ _ _ _ _ _
          refine wpList_load_mid rfl 56 _ rfl b2 0 rfl (en7 x) _ HA3.out.range Tryz.underlying56 rfl infoEntry ?_
          simp only [Act.put, List.setIfInBounds_toArray, List.set_cons_zero, List.set_cons_succ]
          go_wp2_with (with_reducible show wpList _ _ _ ({ dst := _, op := Op.indexAddr 51 _ _, type := _, pos := _, after := _, guard := _ } :: _) _ _; refine Shut.out ?_)
          show wpList _ _ _ _ _ _
          refine wpList_val7 (.pointer (some ⟨g, i * 7, none⟩)) rfl (exec_idxE i hlt rfl rfl rfl) ?_
          simp only [Act.put, List.setIfInBounds_toArray, List.set_cons_zero, List.set_cons_succ]
          go_wp2_with (with_reducible show wpList _ _ _ ({ dst := _, op := Op.store 56 _ _, type := _, pos := _, after := _, guard := _ } :: _) _ _; refine Shut.out ?_)
          show wpList _ _ _ _ _ _
          refine wpList_store_mid rfl 56 _ _ rfl g (i * 7) (en7 x).toArray rfl rfl HTH.out (by kernel_rfl) (all_oneCell_toArray (en7_one x)) ?_
          simp only [Act.put]
          have HT2 : Hid (ES w (w3.setCells g (i * 7) (en7 x).toArray.toList) g ks (i + 1) (ens ++ [x]) (R.drop 7)) := HT
          clear HT
          generalize w3.setCells g (i * 7) (en7 x).toArray.toList = w4 at *
          go_wp2
          go_roundw
          case rel => exact ⟨i + 1, ens ++ [x], R.drop 7, by go_num, by omega, HT2⟩
          case measure => simp [intOf]; omega
        · have h0z : (pkE ks[i] != 0) = true := by rw [bne_iff_ne]; exact h0
          have HF := Hid.of (show pkE ks[i] = (if 4096 < ks.length then 2 else kE ks) ∧ pkE ks[i] ≠ 0 from ⟨by rw [HE.out]; exact (kE_at hil hI.out.good h0).symm, h0⟩)
          have HU4 := Hid.of (hI.out.up.trans (HU2.out.trans HU3.out))
          clear h0 HX
          generalize pkE ks[i] = er at *
          go_wp2
          go_ret2
          exact SRP.no HF.out.1 HF.out.2 HU4.out
      · have hltz : ¬ (i : Int) < (n : Int) := by omega
        have hin : i = n := by omega
        have hel := En.size hI.out.keys (by rw [HN.out]; exact hi)
        have hR : R = [] := List.eq_nil_of_length_eq_zero (by rw [hI.out.len, HN.out, hin]; simp)
        subst hR
        have hA := hI.out.at_
        rw [List.append_nil] at hA
        have hs7 := Sort7_walk w HG.out.toGM g ens wb hI.out.up (by rw [HGG.out]; exact Nat.le_refl _) hA (fun x hx => (hI.out.ok x hx).1) (by omega)
        rw [hel, hin] at hs7
        have HS7 := Hid.of hs7
        have HKS := Hid.of (show ens.map En.key = ks by
          rw [hI.out.keys, hin, List.take_of_length_le (by rw [HN.out]; exact Nat.le_refl _)])
        have HGD := Hid.of (show ∀ x ∈ ens, EnF x x.key from fun x hx => (hI.out.ok x hx).2.1)
        have HGE := Hid.of (show kE ks = 0 from kE_all fun s hs => by
          have h1 := hI.out.good
          rw [hin, List.take_of_length_le (by rw [HN.out]; exact Nat.le_refl _)] at h1
          exact h1 s hs)
        have HEL := Hid.of (hel.trans hin)
        clear hA hs7 hel hin
        go_wp2_with fail
        refine HS7.out.mono ?_
        rintro e w2 ⟨rfl, es, hp, hso, hA2, hg2⟩
        have HP := Hid.of (And.intro hp hso)
        have HU2 := Hid.of (hI.out.up.by hg2 (fun k hk => by injection hk with hk; have := HGG.out; omega))
        have HA2 := Hid.of hA2
        have HEL2 := Hid.of (hp.length_eq.trans HEL.out)
        clear hp hso hA2 hg2
        dsimp only
        go_wp2_with (with_reducible show wpList _ _ _ ({ dst := _, op := Op.makeSlice 22 _ _, type := _, pos := _, after := _, guard := _ } :: _) _ _; refine Shut.out ?_)
        show wpList _ _ _ _ _ _
        refine wpList_mkS rfl _ _ rfl n rfl rfl (by omega) ?_
        intro w3 ls0 hO3 hl3 u3
        simp only [Act.put, List.setIfInBounds_toArray, List.set_cons_zero, List.set_cons_succ]
        have HI2 := Hid.of (show FSx w w3 g w2.heap.size es 0 n ls0 from ⟨HA2.out.up u3, HU2.out.trans u3, hO3, hl3, by simp⟩)
        have HGB := Hid.of (show w.heap.size ≤ w2.heap.size ∧ g ≠ w2.heap.size from ⟨HU2.out.size, by have := lt_of_at HA2.out; omega⟩)
        clear hO3 hl3 u3
        generalize hB : w2.heap.size = B at *
        go_wp2
        go_loopw [10, 11, 45] (fun _ _ v45 wr => ∃ (j : Nat) (ls : List (List UInt8)), v45 = .int .i64 (j : Int) ∧ j ≤ n ∧ Hid (FSx w wr g B es j n ls)) (fun _ _ v45 _ => n - (intOf v45).toNat)
        case atStart => exact ⟨0, ls0, rfl, by omega, HI2⟩
        case round =>
          obtain ⟨j, ls, rfl, hj, hJ⟩ := hrel
          obtain ⟨wc, hwc⟩ : ∃ wc, wc = wr := ⟨_, rfl⟩
          subst hwc
          by_cases hjt : j < n
          · have hjtz : (j : Int) < (n : Int) := by omega
            have hje : j < es.length := by rw [HEL2.out]; exact hjt
            have hrg : wc.rangeAt g (j * 7) (en7 es[j]) := hJ.out.at_.mid (j * 7) (fun q v hv => by
              have hq : q < 7 := by have := (List.getElem?_eq_some_iff.1 hv).1; rwa [en7_len] at this
              rw [ecs_get es hje hq]; exact hv)
            have HRG := Hid.of hrg
            clear hrg
            go_wp2_with (with_reducible show wpList _ _ _ ({ dst := _, op := Op.indexAddr 51 _ _, type := _, pos := _, after := _, guard := _ } :: _) _ _; refine Shut.out ?_)
            show wpList _ _ _ _ _ _
            refine wpList_val7 (.pointer (some ⟨g, j * 7, none⟩)) rfl (exec_idxE j hjt rfl rfl rfl) ?_
            simp only [Act.put, List.setIfInBounds_toArray, List.set_cons_zero, List.set_cons_succ]
            go_wp2_with (with_reducible show wpList _ _ _ ({ dst := _, op := Op.load 56 _, type := _, pos := _, after := _, guard := _ } :: _) _ _; refine Shut.out ?_)
            show wpList _ _ _ _ _ _
            refine wpList_load_mid rfl 56 _ rfl g (j * 7) rfl (en7 es[j]) _ HRG.out Tryz.underlying56 rfl infoEntry ?_
            simp only [Act.put, List.setIfInBounds_toArray, List.set_cons_zero, List.set_cons_succ]
            go_wp2_with (with_reducible show wpList _ _ _ ({ dst := _, op := Op.store 56 _ _, type := _, pos := _, after := _, guard := _ } :: _) _ _; refine Shut.out ?_)
            show wpList _ _ _ _ _ _
            refine wpList_store_at rfl _ _ _ rfl wc.heap.size (at_new wc 56 z7) (en7 es[j]) rfl rfl rfl (by kernel_rfl) (all_oneCell_toArray (en7_one es[j])) fun w5 hA5 hg5 => ?_
            have HU5 := Hid.of (show Up wc w5 from ((Up.refl wc).alloc _).by hg5 (fun k hk => by injection hk with hk; omega))
            have hx0 := hA5.cell (i := 0) (v := .string ⟨es[j].x0.toArray⟩) rfl
            have hx1 := hA5.cell (i := 1) (v := .string ⟨es[j].x1.toArray⟩) rfl
            have HT := Hid.of (hJ.out.step HGB.out.1 HGB.out.2 hjt hje HU5.out)
            obtain ⟨g2, cap2, hv2, _, _, _, hcl, hfz⟩ := (hJ.out.own.up HU5.out).row (by intro h; have := hJ.out.len; rw [h] at this; simp at this; omega)
            have hg2 : g2 = B := by
              simp only [Value.slice.injEq, Option.some.injEq, Addr.mk.injEq, and_true] at hv2
              exact hv2.1.symm
            subst hg2
            have hcj := hcl j (by rw [hJ.out.len]; exact hjt)
            have hfj := hfz j
            have hkl : es[j].key.length ≤ 1048576 := HSZ.out _ (by
              rw [← HKS.out]
              exact List.mem_map.2 ⟨es[j], HP.out.1.mem_iff.1 (List.getElem_mem hje), rfl⟩)
            have HKE := Hid.of (show es[j].key = es[j].x0 ++ 64 :: es[j].x1 from rfl)
            generalize es[j].key = kk at *
            obtain ⟨p0, hp1, hp2⟩ := ba_of es[j].x0
            obtain ⟨p1, hq1, hq2⟩ := ba_of es[j].x1
            rw [hp2] at hx0
            rw [hq2] at hx1
            rw [← hp1, ← hq1] at HKE
            have hk2 : kk.length = p0.size + 1 + p1.size := by
              rw [HKE.out, List.length_append, List.length_cons, len_of, len_of]
              omega
            have k1 : ¬ 9223372036854775807 < p0.size + 1 := by omega
            have k2 : ¬ 9223372036854775807 < p0.size + 1 + p1.size := by omega
            have HKS2 := Hid.of (show (⟨kk.toArray⟩ : ByteArray) = p0 ++ ⟨#[64]⟩ ++ p1 by
              rw [HKE.out]
              simp only [ba_app]
              simp)
            generalize (ls[j]'(by rw [hJ.out.len]; exact hjt)) = lj at *
            clear hcl hfz hkl hk2 hp1 hp2 hq1 hq2 hA5 hg5 hv2
            generalize en7 es[j] = ej at *
            generalize hbw : wc.heap.size = bw at *
            simp only [Act.put]
            go_wp2
            rw [← HKS2.out]
            generalize hww : w5.setCell ⟨g2, j, none⟩ (.string ⟨kk.toArray⟩) = w6 at *
            go_wp2
            go_roundw
            case rel => exact ⟨j + 1, ls.set j kk, by go_num, by omega, HT⟩
            case measure => simp [intOf]; omega
          · have hjtz : ¬ (j : Int) < (n : Int) := by omega
            have hjn : j = n := by omega
            have HLS := Hid.of (show ls = es.map En.key by
              have h1 := hJ.out.keys
              rwa [hjn, List.take_of_length_le (by rw [hJ.out.len]; exact Nat.le_refl _), List.take_of_length_le (by rw [List.length_map, HEL2.out]; exact Nat.le_refl _)] at h1)
            clear hjn
            go_wp2
            go_ret2
            refine ⟨.slice (some ⟨B, 0, none⟩) n n, 0, ls, rfl, by rw [HE.out, HGE.out], fun h => absurd rfl h, fun _ => ⟨?_, ?_, B, by rw [hJ.out.len], HGB.out.1⟩, hJ.out.own.lower HGB.out.1, hJ.out.up⟩
            · rw [HLS.out, ← HKS.out]
              exact HP.out.1.map _
            · rw [HLS.out, List.pairwise_map]
              refine HP.out.2.imp_of_mem fun {x y} hx hy hxy => ?_
              show kcm x.key y.key ≤ 0
              rw [← (HGD.out x (HP.out.1.mem_iff.1 hx)).cmp (HGD.out y (HP.out.1.mem_iff.1 hy))]
              exact hxy
end Go.Proofs.YtnciglpdjpckiaaGreatDoor
namespace Go.Proofs.YtnciglpdjpckiaaGreatDoor
open Go.RowKit Go.Shelf TextNum ModNum
set_option maxRecDepth 100000 in
set_option maxHeartbeats 1000000 in
theorem after_walk (s t : ByteArray) (hs : s.size ≤ 1048576) (ht : t.size ≤ 1048576) (h0 : pkE s.data.toList = 0) (h1 : pkE t.data.toList = 0) (hk : kle s.data.toList t.data.toList) (w : World) (hG : GR w) : Calls Tryz.prog 12 #[.string s, .string t] w fun e w' => e = .returned (.bool true) ∧ Up w w' := by
  have HP := Hid.of (ParseKey_walk s (by omega) w hG)
  have HQ := fun w' => fun (u : Up w w') => Hid.of (ParseKey_walk t (by omega) w' (hG.up u))
  have e1 : pkP s.data.toList = ahd 64 s.data.toList := if_pos h0
  have e2 : pkV s.data.toList = bhd 64 s.data.toList := if_pos h0
  have e3 : pkP t.data.toList = ahd 64 t.data.toList := if_pos h1
  have e4 : pkV t.data.toList = bhd 64 t.data.toList := if_pos h1
  rw [h0, e1, e2] at HP
  rw [h1, e3, e4] at HQ
  clear e1 e2 e3 e4 h0 h1 hs ht
  obtain ⟨p, hp1, hp2⟩ := ba_of (ahd 64 s.data.toList)
  obtain ⟨v, hv1, hv2⟩ := ba_of (bhd 64 s.data.toList)
  obtain ⟨q, hq1, hq2⟩ := ba_of (ahd 64 t.data.toList)
  obtain ⟨x, hx1, hx2⟩ := ba_of (bhd 64 t.data.toList)
  have HP2 : Hid (Calls Tryz.prog 10 #[.string s] w fun e w' => e = .returned (.tuple #[.string p, .string v, .int .i64 0]) ∧ Up w w') := by rw [← hp2, ← hv2]; exact HP
  have HQ2 : ∀ w', Up w w' → Hid (Calls Tryz.prog 10 #[.string t] w' fun e w2 => e = .returned (.tuple #[.string q, .string x, .int .i64 0]) ∧ Up w' w2) := by rw [← hq2, ← hx2]; exact HQ
  have HC := fun w' => fun (u : Up w w') => Hid.of (Compare_walk v x w' (hG.up u).toGM)
  unfold kle kcm at hk
  rw [← hp1, ← hv1, ← hq1, ← hx1] at hk
  clear HP HQ hp1 hv1 hq1 hx1 hp2 hv2 hq2 hx2 hG
  have e5 := less_cmp p.data.toList q.data.toList
  have e7 : (p.toList == q.toList) = decide (cmpB p.data.toList q.data.toList = 0) := by
    rw [Go.Lib.toList_data, Go.Lib.toList_data, Bool.eq_iff_iff]
    simp [cmpB_eq]
  rw [← Go.Lib.toList_data, ← Go.Lib.toList_data] at e5
  by_cases hpq : cmpB p.data.toList q.data.toList = 0
  · rw [if_pos hpq] at hk
    rw [decide_eq_true hpq] at e7
    by_cases hc0 : cmpV v.data.toList x.data.toList = 0
    · rw [if_pos hc0] at hk
      have e8 : (Op.bytesLess v.toList x.toList || v.toList == x.toList) = true := by
        rw [Go.Lib.toList_data, Go.Lib.toList_data, less_cmp]
        rcases cmpB_val v.data.toList x.data.toList with h2 | h2 | h2
        · rw [h2]; rfl
        · rw [cmpB_eq.1 h2]; simp
        · omega
      rw [hc0] at HC
      clear hk hpq hc0 e5
      go_enter Tryz.func12, Tryz.ntmps12
      go_wp2_with fail
      refine (HP2.out).mono ?_
      rintro e w1 ⟨rfl, u1⟩
      have H1 := Hid.of (u1)
      have Hu1 := Hid.of u1
      clear u1
      dsimp only
      go_wp2_with fail
      refine ((HQ2 _ H1.out).out).mono ?_
      rintro e w2 ⟨rfl, u2⟩
      have H2 := Hid.of (H1.out.trans u2)
      have Hu2 := Hid.of u2
      clear u2
      dsimp only
      go_wp2_with fail
      refine ((HC _ H2.out).out).mono ?_
      rintro e w3 ⟨rfl, u3⟩
      have H3 := Hid.of (H2.out.trans u3)
      have Hu3 := Hid.of u3
      clear u3
      dsimp only
      go_wp2
      go_ret
      exact ⟨rfl, H3.out⟩
    · rw [if_neg hc0] at hk
      have hcn : cmpV v.data.toList x.data.toList < 0 := by omega
      generalize cmpV v.data.toList x.data.toList = cv at *
      clear hk hpq hc0 e5
      go_enter Tryz.func12, Tryz.ntmps12
      go_wp2_with fail
      refine (HP2.out).mono ?_
      rintro e w1 ⟨rfl, u1⟩
      have H1 := Hid.of (u1)
      have Hu1 := Hid.of u1
      clear u1
      dsimp only
      go_wp2_with fail
      refine ((HQ2 _ H1.out).out).mono ?_
      rintro e w2 ⟨rfl, u2⟩
      have H2 := Hid.of (H1.out.trans u2)
      have Hu2 := Hid.of u2
      clear u2
      dsimp only
      go_wp2_with fail
      refine ((HC _ H2.out).out).mono ?_
      rintro e w3 ⟨rfl, u3⟩
      have H3 := Hid.of (H2.out.trans u3)
      have Hu3 := Hid.of u3
      clear u3
      dsimp only
      go_wp2
      go_ret
      exact ⟨rfl, H3.out⟩
  · rw [if_neg hpq] at hk
    rw [decide_eq_false hpq] at e7
    have e8 : Op.bytesLess p.toList q.toList = true := by
      rw [Go.Lib.toList_data, Go.Lib.toList_data] at e5 ⊢
      rw [e5]
      rw [decide_eq_true_iff]
      rcases cmpB_val p.data.toList q.data.toList with h2 | h2 | h2 <;> omega
    clear hk hpq e5
    go_enter Tryz.func12, Tryz.ntmps12
    go_wp2_with fail
    refine (HP2.out).mono ?_
    rintro e w1 ⟨rfl, u1⟩
    have H1 := Hid.of (u1)
    have Hu1 := Hid.of u1
    clear u1
    dsimp only
    go_wp2_with fail
    refine ((HQ2 _ H1.out).out).mono ?_
    rintro e w2 ⟨rfl, u2⟩
    have H2 := Hid.of (H1.out.trans u2)
    have Hu2 := Hid.of u2
    clear u2
    dsimp only
    go_wp2
    go_ret
    exact ⟨rfl, H2.out⟩
end Go.Proofs.YtnciglpdjpckiaaGreatDoor
namespace Go.Proofs.YtnciglpdjpckiaaGreatDoor
open Go.RowKit Go.Shelf TextNum ModNum
theorem run_app_none {w : World} {v : Value} {B n : Nat} {xs : List Value} {ty : TypeId} {c : Nat} (h : w.ownsRow B 9 1 v n xs) : (Builtin.append_ #[22, 22] ty #[v, .slice none 0 c]).run Tryz.prog w = .ok v w := by
  obtain ⟨i0, hi, hz0, hz1, hz2⟩ := info_parts Tryz.infoStr
  rcases h.2 with ⟨rfl, h1⟩ | ⟨g, cap, cur, rfl, _, _, hnc, _⟩
  · simp [Builtin.append_, run_underlying Tryz.underlying22, sizeOf, typeInfo, hi, Builtin.lenOf, Builtin.firstCells]
  · simp [Builtin.append_, run_underlying Tryz.underlying22, sizeOf, typeInfo, hi, Builtin.lenOf, Builtin.firstCells, hnc, storeCells]
theorem wpList_appR {ops : Array Oper} {rest : List Oper} {o : Oper} {a : Act} {w : World} {Q : Exit → Act → World → Prop} (hgd : o.guard = none) (s x : Operand)
    (ho : o.op = .call { callee := .builtin .append, args := #[s, x], argTypes := #[22, 22] }) (B : Nat) (v vy : Value) (xs ys : List (List UInt8)) (hs : a.eval s = v) (hx : a.eval x = vy) (hown : OwnS w B v xs) (hS : SlS w vy ys)
    (hn : xs.length + ys.length ≤ 1099511627776) (hB : B ≤ w.heap.size)
    (h : ∀ v' w', OwnS w' B v' (xs ++ ys) → Below B w w' → wpList Tryz.prog ops Q rest (a.put o.dst v') w') : wpList Tryz.prog ops Q (o :: rest) a w := by
  obtain ⟨ad, c, rfl, hc, hd⟩ := hS
  cases ad with
  | none =>
    have : ys = [] := by
      rcases hd with h1 | ⟨b, off, h1, _⟩
      · exact h1
      · cases h1
    subst this
    refine wpList_plain hgd fun K2 hK => ?_
    have hr := run_app_none (ty := o.type) (c := c) hown
    unfold Oper.wp execOp
    simp only [List.length_nil] at hx
    simp only [ho, resolve, invoke, builtin, Sem.run_bind, Sem.run_pure, Result.andThen_ok, List.map_toArray, List.map_cons, List.map_nil, hs, hx, hr]
    exact hK _ _ (h v w (by rw [List.append_nil]; exact hown) (Below.refl B w))
  | some ad =>
    refine wpList_appSS hgd s x ho B v xs ys hs hown ad c ys.length rfl hx (fun j u hu => ?_) hn hB h
    have hj : j < ys.length := by
      have := (List.getElem?_eq_some_iff.1 hu).1
      rwa [cst_len] at this
    rcases hd with h1 | ⟨b, off, h1, _, h2⟩
    · subst h1; simp at hj
    · injection h1 with h1
      subst h1
      rw [cst_get hj] at hu
      injection hu with hu
      rw [add_plain, ← hu]
      exact h2 j hj
theorem cnt_perm {a b : List (List UInt8)} (h : List.Perm a b) (s : List UInt8) : cnt a s = cnt b s := (h.filter _).length_eq
set_option maxRecDepth 100000 in
set_option maxHeartbeats 4000000 in
theorem sorts_law (v : Value) (ks : List (List UInt8)) (hsz : ∀ s ∈ ks, s.length ≤ 1048576) (hkn : ks.length ≤ 1048576) (w : World) (hG : GR w) (hS : SlS w v ks) : Calls Tryz.prog 3 #[v] w fun e w' => e = .returned (.bool true) ∧ Up w w' := by
  have HS := Hid.of hS
  have HG := Hid.of hG
  have HSZ := Hid.of hsz
  obtain ⟨a, c, rfl, hcc, _⟩ := id hS
  obtain ⟨n, hn⟩ : ∃ n, ks.length = n := ⟨_, rfl⟩
  have HN := Hid.of hn
  rw [hn] at hcc HS hkn ⊢
  have hccz : (n : Int) ≤ (c : Int) := by omega
  clear hS hn hG hsz
  go_enter Tryz.func3, Tryz.ntmps3
  go_wp2_with (with_reducible show wpList _ _ _ ({ dst := _, op := Op.call { callee := Callee.builtin Builtin.append, args := _, argTypes := _ }, type := _, pos := _, after := _, guard := _ } :: _) _ _; refine Shut.out ?_)
  show wpList _ _ _ _ _ _
  refine wpList_appR rfl _ _ rfl w.heap.size (.slice none 0 0) (.slice a n c) [] ks rfl rfl (ownS_nil _ _) HS.out (by rw [HN.out]; simp; omega) (Nat.le_refl _) ?_
  intro v1 w1 hO1 hb1
  rw [List.nil_append] at hO1
  have H1 := Hid.of (show Up w w1 from hb1)
  have HSO := Hid.of (Sort_walk v1 ks HSZ.out w1 (HG.out.up hb1) hO1.sl)
  clear hO1 hb1
  simp only [Act.put, List.setIfInBounds_toArray, List.set_cons_zero, List.set_cons_succ]
  go_wp2_with fail
  refine HSO.out.mono ?_
  rintro e w2 ⟨v2, er, ls, rfl, her, hno, hyes, _, u2⟩
  have hO2 := ‹OwnS w2 w1.heap.size v2 ls›
  have H2 := Hid.of (H1.out.trans u2)
  have HO2 := Hid.of hO2
  have HK := Hid.of (known_walk w2 (HG.out.up H2.out))
  clear u2 hO2 HSO
  dsimp only
  by_cases h4 : 4096 < n
  · have h4z : (4096 : Int) < (n : Int) := by omega
    rw [HN.out, if_pos h4] at her
    subst her
    obtain ⟨rfl, rfl⟩ := hno (by decide)
    clear hno hyes h4
    go_wp2_with fail
    refine (HK.out).mono ?_
    rintro e w3 ⟨rfl, u3⟩
    have H3 := Hid.of (H2.out.trans u3)
    have Hu3 := Hid.of u3
    clear u3
    dsimp only
    go_wp2
    go_ret
    exact ⟨rfl, H3.out⟩
  · have h4z : ¬ (4096 : Int) < (n : Int) := by omega
    rw [HN.out, if_neg h4] at her
    have HER := Hid.of her
    have HNO := Hid.of hno
    have HYES := Hid.of hyes
    clear her hno hyes h4
    obtain ⟨a2, m2, c2, rfl⟩ : ∃ a2 m2 c2, v2 = .slice a2 m2 c2 := by
      obtain ⟨a2, c2, h⟩ := HO2.out.sl.len
      exact ⟨_, _, _, h⟩
    go_wp2_with fail
    refine (HK.out).mono ?_
    rintro e w3 ⟨rfl, u3⟩
    have H3 := Hid.of (H2.out.trans u3)
    have Hu3 := Hid.of u3
    clear u3
    dsimp only
    go_wp2
    go_loopw [6, 7, 8, 9] (fun v6 _ _ _ wr => ∃ i : Nat, v6 = .int .i64 (i : Int) ∧ i ≤ n ∧ Hid (Up w3 wr ∧ ∀ s ∈ ks.take i, pkE s = 0)) (fun v6 _ _ _ _ => n - (intOf v6).toNat)
    case atStart => exact ⟨0, rfl, by omega, Up.refl _, fun s hs => by simp at hs⟩
    case round =>
      obtain ⟨i, rfl, hi, hI⟩ := hrel
      obtain ⟨wb, hwb⟩ : ∃ wb, wb = wr := ⟨_, rfl⟩
      subst hwb
      by_cases hlt : i < n
      · have hltz : (i : Int) < (n : Int) := by omega
        have hil : i < ks.length := by rw [HN.out]; exact hlt
        obtain ⟨b, off, rfl, hc⟩ := (HS.out.up (H3.out.trans hI.out.1)).get hil
        obtain ⟨s, hs1, hs2⟩ := ba_of ks[i]
        rw [hs2] at hc
        have hss : s.size ≤ 1048576 := by
          rw [← len_of, hs1]
          exact HSZ.out _ (List.getElem_mem hil)
        have HP := Hid.of (ParseKey_walk s (by omega) wb (HG.out.up (H3.out.trans hI.out.1)))
        rw [hs1] at HP
        by_cases h0 : pkE ks[i] = 0
        · have HI2 := Hid.of (show ∀ t ∈ ks.take (i + 1), pkE t = 0 from fun t ht => by
            rw [List.take_add_one, List.getElem?_eq_getElem hil] at ht
            rcases List.mem_append.1 ht with ht | ht
            · exact hI.out.2 t ht
            · have : t = ks[i] := by simpa using ht
              rw [this]; exact h0)
          rw [h0] at HP
          clear h0 hs1 hs2 hss
          go_wp2_with fail
          refine (HP.out).mono ?_
          rintro e w5 ⟨rfl, u5⟩
          have H5 := Hid.of (hI.out.1.trans u5)
          have Hu5 := Hid.of u5
          clear u5
          dsimp only
          go_wp2
          go_roundw
          case rel => exact ⟨i + 1, by go_num, by omega, H5.out, HI2.out⟩
          case measure => simp [intOf]; omega
        · have HE2 := Hid.of (show er = pkE ks[i] by rw [HER.out]; exact kE_at hil hI.out.2 h0)
          have h0e : er ≠ 0 := by rw [HE2.out]; exact h0
          have h0z : (er != 0) = true := by rw [bne_iff_ne]; exact h0e
          obtain ⟨rfl, h2⟩ := HNO.out h0e
          simp only [Value.slice.injEq] at h2
          obtain ⟨rfl, rfl, rfl⟩ := h2
          rw [← HE2.out] at HP
          clear h0 h0e hs1 hs2 hss
          go_wp2_with fail
          refine (HP.out).mono ?_
          rintro e w5 ⟨rfl, u5⟩
          have H5 := Hid.of (hI.out.1.trans u5)
          have Hu5 := Hid.of u5
          clear u5
          dsimp only
          go_wp2
          go_ret
          exact ⟨rfl, H3.out.trans H5.out⟩
      · have hltz : ¬ (i : Int) < (n : Int) := by omega
        have hin : i = n := by omega
        have hk0 : kE ks = 0 := kE_all fun s hs => by
          have h1 := hI.out.2
          rw [hin, List.take_of_length_le (by rw [HN.out]; exact Nat.le_refl _)] at h1
          exact h1 s hs
        have HK0 := Hid.of hk0
        have her : er = 0 := by rw [HER.out, hk0]
        subst her
        obtain ⟨hp, hso, g, hv2, _⟩ := HYES.out rfl
        have hml : ls.length = n := by rw [hp.length_eq, HN.out]
        rw [hml] at hv2
        simp only [Value.slice.injEq] at hv2
        obtain ⟨rfl, hm2, hc2⟩ := hv2
        obtain rfl := hm2.symm
        obtain rfl := hc2.symm
        have HP := Hid.of (And.intro hp hso)
        have HML := Hid.of hml
        have HU0 := Hid.of (H3.out.trans hI.out.1)
        have HSL := Hid.of (HO2.out.sl.up (Hu3.out.trans hI.out.1))
        clear hk0 hp hso hml hin
        go_wp2
        go_loopw [10] (fun v10 wr2 => ∃ i : Nat, v10 = .int .i64 (i : Int) ∧ i ≤ n ∧ Hid (Up wb wr2)) (fun v10 _ => n - (intOf v10).toNat)
        case atStart => exact ⟨0, rfl, by omega, Up.refl _⟩
        case round =>
          obtain ⟨i2, rfl, hi2, hJ⟩ := hrel
          obtain ⟨wc, hwc⟩ : ∃ wc, wc = wr := ⟨_, rfl⟩
          subst hwc
          by_cases hlt2 : i2 < n
          · have hlz : (i2 : Int) < (n : Int) := by omega
            have hil : i2 < ls.length := by rw [HML.out]; exact hlt2
            have HSLc := Hid.of (HSL.out.up hJ.out)
            have HKSc := Hid.of (HS.out.up (HU0.out.trans hJ.out))
            have hget : ∀ k (hk : k < ls.length), wc.cell? ⟨g, k, none⟩ = some (.string ⟨ls[k].toArray⟩) := fun k hk => by
              obtain ⟨b, off, hb, hc⟩ := HSLc.out.get hk
              simp only [Option.some.injEq, Addr.mk.injEq, and_true] at hb
              obtain ⟨rfl, rfl⟩ := hb
              rwa [Nat.zero_add] at hc
            have hgood : ∀ k (hk : k < ls.length), pkE ls[k] = 0 ∧ ls[k].length ≤ 1048576 := fun k hk => by
              have hm := HP.out.1.mem_iff.1 (List.getElem_mem hk)
              exact ⟨kE_zero HK0.out _ hm, HSZ.out _ hm⟩
            obtain ⟨x, hx1, hx2⟩ := ba_of ls[i2]
            have HCX := Hid.of (hget i2 hil)
            rw [hx2] at HCX
            have hln : ls.length ≤ 1099511627776 := by rw [HML.out]; omega
            have HN1 := fun w' => fun (u : Up wc w') => Hid.of (count_walk (.slice (some ⟨g, 0, none⟩) n n) ls x hln w' (HSLc.out.up u))
            have HN2 := fun w' => fun (u : Up wc w') => Hid.of (count_walk (.slice a n c) ks x (by rw [HN.out]; omega) w' (HKSc.out.up u))
            rw [cnt_perm HP.out.1] at HN1
            generalize cnt ks x.data.toList = cc at *
            obtain rfl | ⟨j, hj⟩ : i2 = 0 ∨ ∃ j, i2 = j + 1 := by
              cases i2 with
              | zero => exact .inl rfl
              | succ j => exact .inr ⟨j, rfl⟩
            · clear hln hget hgood hx1 hx2
              go_wp2
              refine wp_region_held_drew (S := fun w2 => Up wc w2) (by kernel_rfl) ((Up.refl wc).drew) (fun hS => ?_)
              refine wpAnyH_take (i := 0) (oi := { dst := some 71, op := Go.Op.move (Go.Operand.tmp 4), type := 22, pos := "outright.go:225", after := #[], guard := none }) (v := .slice (some ⟨g, 0, none⟩) n n) rfl (by kernel_rfl) (by kernel_rfl) (by kernel_rfl) (fun _ _ _ h => h) (Or.inl ⟨by kernel_rfl, ?_⟩) hS ?_
              · intro w5 hSw
                go_simp
              simp only [Act.put, List.setIfInBounds_toArray, List.set_cons_zero, List.set_cons_succ]
              refine wpAnyH_take (i := 1) (oi := { dst := some 72, op := Go.Op.move (Go.Operand.tmp 4), type := 22, pos := "outright.go:225", after := #[], guard := none }) (v := .slice (some ⟨g, 0, none⟩) n n) rfl (by kernel_rfl) (by kernel_rfl) (by kernel_rfl) (fun _ _ _ h => h) (Or.inl ⟨by kernel_rfl, ?_⟩) hS ?_
              · intro w5 hSw
                go_simp
              simp only [Act.put, List.setIfInBounds_toArray, List.set_cons_zero, List.set_cons_succ]
              refine wpAnyH_take (i := 2) (oi := { dst := some 73, op := Go.Op.move (Go.Operand.tmp 10), type := 3, pos := "outright.go:225", after := #[], guard := none }) (v := .int .i64 0) rfl (by kernel_rfl) (by kernel_rfl) (by kernel_rfl) (fun _ _ _ h => h) (Or.inl ⟨by kernel_rfl, ?_⟩) hS ?_
              · intro w5 hSw
                go_simp
              simp only [Act.put, List.setIfInBounds_toArray, List.set_cons_zero, List.set_cons_succ]
              refine wpAnyH_take (i := 3) (oi := { dst := some 74, op := Go.Op.indexAddr 22 (Go.Operand.tmp 72) (Go.Operand.tmp 73), type := 0, pos := "outright.go:225", after := #[{ on := 1, ground := Go.Ground.data }, { on := 2, ground := Go.Ground.data }], guard := none }) (v := .pointer (some ⟨g, 0, none⟩)) rfl (by kernel_rfl) (by kernel_rfl) (by kernel_rfl) (fun _ _ _ h => h) (Or.inl ⟨by kernel_rfl, ?_⟩) hS ?_
              · intro w5 hSw
                go_simp
              simp only [Act.put, List.setIfInBounds_toArray, List.set_cons_zero, List.set_cons_succ]
              refine wpAnyH_take (i := 4) (oi := { dst := some 75, op := Go.Op.load 9 (Go.Operand.tmp 74), type := 9, pos := "outright.go:225", after := #[{ on := 3, ground := Go.Ground.data }], guard := none }) (v := .string x) rfl (by kernel_rfl) (by kernel_rfl) (by kernel_rfl) (fun _ _ _ h => h) (Or.inl ⟨by kernel_rfl, ?_⟩) hS ?_
              · intro w5 hSw
                have hq := hSw.cell HCX.out
                go_simp
              simp only [Act.put, List.setIfInBounds_toArray, List.set_cons_zero, List.set_cons_succ]
              refine wpAnyH_take (i := 6) (oi := { dst := some 77, op := Go.Op.move (Go.Operand.tmp 0), type := 22, pos := "outright.go:225", after := #[], guard := none }) (v := .slice a n c) rfl (by kernel_rfl) (by kernel_rfl) (by kernel_rfl) (fun _ _ _ h => h) (Or.inl ⟨by kernel_rfl, ?_⟩) hS ?_
              · intro w5 hSw
                go_simp
              simp only [Act.put, List.setIfInBounds_toArray, List.set_cons_zero, List.set_cons_succ]
              refine wpAnyH_take (i := 7) (oi := { dst := some 78, op := Go.Op.move (Go.Operand.tmp 4), type := 22, pos := "outright.go:225", after := #[], guard := none }) (v := .slice (some ⟨g, 0, none⟩) n n) rfl (by kernel_rfl) (by kernel_rfl) (by kernel_rfl) (fun _ _ _ h => h) (Or.inl ⟨by kernel_rfl, ?_⟩) hS ?_
              · intro w5 hSw
                go_simp
              simp only [Act.put, List.setIfInBounds_toArray, List.set_cons_zero, List.set_cons_succ]
              refine wpAnyH_take (i := 8) (oi := { dst := some 79, op := Go.Op.move (Go.Operand.tmp 10), type := 3, pos := "outright.go:225", after := #[], guard := none }) (v := .int .i64 0) rfl (by kernel_rfl) (by kernel_rfl) (by kernel_rfl) (fun _ _ _ h => h) (Or.inl ⟨by kernel_rfl, ?_⟩) hS ?_
              · intro w5 hSw
                go_simp
              simp only [Act.put, List.setIfInBounds_toArray, List.set_cons_zero, List.set_cons_succ]
              refine wpAnyH_take (i := 9) (oi := { dst := some 80, op := Go.Op.indexAddr 22 (Go.Operand.tmp 78) (Go.Operand.tmp 79), type := 0, pos := "outright.go:225", after := #[{ on := 7, ground := Go.Ground.data }, { on := 8, ground := Go.Ground.data }], guard := none }) (v := .pointer (some ⟨g, 0, none⟩)) rfl (by kernel_rfl) (by kernel_rfl) (by kernel_rfl) (fun _ _ _ h => h) (Or.inl ⟨by kernel_rfl, ?_⟩) hS ?_
              · intro w5 hSw
                go_simp
              simp only [Act.put, List.setIfInBounds_toArray, List.set_cons_zero, List.set_cons_succ]
              refine wpAnyH_take (i := 10) (oi := { dst := some 81, op := Go.Op.load 9 (Go.Operand.tmp 80), type := 9, pos := "outright.go:225", after := #[{ on := 9, ground := Go.Ground.data }], guard := none }) (v := .string x) rfl (by kernel_rfl) (by kernel_rfl) (by kernel_rfl) (fun _ _ _ h => h) (Or.inl ⟨by kernel_rfl, ?_⟩) hS ?_
              · intro w5 hSw
                have hq := hSw.cell HCX.out
                go_simp
              simp only [Act.put, List.setIfInBounds_toArray, List.set_cons_zero, List.set_cons_succ]
              refine wpAnyH_ready (rs := [5]) (by kernel_rfl) (by simp) ?_
              refine AllReadyH.cons (o := { dst := some 76, op := Go.Op.call { callee := Go.Callee.value (Go.Operand.func 11), args := #[Go.Operand.tmp 71, Go.Operand.tmp 75], argTypes := #[22, 9] }, type := 3, pos := "outright.go:225", after := #[{ on := 0, ground := Go.Ground.data }, { on := 4, ground := Go.Ground.data }], guard := none }) rfl (fun K hK => ?_) AllReadyH.nil
              rw [if_pos (by kernel_rfl)]
              go_simp
              refine (HN1 _ hS).out.mono ?_
              rintro e v1 ⟨rfl, u1⟩
              obtain rfl := u1.symm
              dsimp only
              refine hK.out _ _ hS (fun hS1 => ?_)
              clear hK hS
              refine wpAnyH_ready (rs := [11]) (by kernel_rfl) (by simp) ?_
              refine AllReadyH.cons (o := { dst := some 82, op := Go.Op.call { callee := Go.Callee.value (Go.Operand.func 11), args := #[Go.Operand.tmp 77, Go.Operand.tmp 81], argTypes := #[22, 9] }, type := 3, pos := "outright.go:225", after := #[{ on := 6, ground := Go.Ground.data }, { on := 10, ground := Go.Ground.data }, { on := 5, ground := Go.Ground.chain }], guard := none }) rfl (fun K hK => ?_) AllReadyH.nil
              rw [if_pos (by kernel_rfl)]
              go_simp
              refine (HN2 _ hS1).out.mono ?_
              rintro e v2 ⟨rfl, u2⟩
              obtain rfl := u2.symm
              dsimp only
              refine hK.out _ _ hS1 (fun hS2 => ?_)
              clear hK hS1
              refine wpAnyH_take (i := 12) (oi := { dst := some 83, op := Go.Op.binOp Go.BinOp.neq 3 (Go.Operand.tmp 76) (Go.Operand.tmp 82) 3, type := 4, pos := "outright.go:225", after := #[{ on := 5, ground := Go.Ground.data }, { on := 11, ground := Go.Ground.data }], guard := none }) (v := .bool false) rfl (by kernel_rfl) (by kernel_rfl) (by kernel_rfl) (fun _ _ _ h => h) (Or.inl ⟨by kernel_rfl, ?_⟩) hS2 ?_
              · intro w5 hSw
                go_simp
              simp only [Act.put, List.setIfInBounds_toArray, List.set_cons_zero, List.set_cons_succ]
              refine wpAnyH_take (i := 13) (oi := { dst := some 84, op := Go.Op.move (Go.Operand.tmp 83), type := 4, pos := "outright.go:225", after := #[{ on := 12, ground := Go.Ground.data }, { on := 11, ground := Go.Ground.chain }], guard := none }) (v := .bool false) rfl (by kernel_rfl) (by kernel_rfl) (by kernel_rfl) (fun _ _ _ h => h) (Or.inl ⟨by kernel_rfl, ?_⟩) hS2 ?_
              · intro w5 hSw
                go_simp
              simp only [Act.put, List.setIfInBounds_toArray, List.set_cons_zero, List.set_cons_succ]
              refine wpAnyH_take (i := 14) (oi := { dst := some 85, op := Go.Op.move (Go.Operand.tmp 10), type := 3, pos := "outright.go:225", after := #[{ on := 13, ground := Go.Ground.guard }], guard := some (13, false) }) (v := .int .i64 0) rfl (by kernel_rfl) (by kernel_rfl) (by kernel_rfl) (fun _ _ _ h => h) (Or.inl ⟨by kernel_rfl, ?_⟩) hS2 ?_
              · intro w5 hSw
                go_simp
              simp only [Act.put, List.setIfInBounds_toArray, List.set_cons_zero, List.set_cons_succ]
              refine wpAnyH_take (i := 15) (oi := { dst := some 86, op := Go.Op.binOp Go.BinOp.gtr 3 (Go.Operand.tmp 85) (Go.Operand.const (Go.Value.int Go.IntKind.i64 0)) 3, type := 4, pos := "outright.go:225", after := #[{ on := 14, ground := Go.Ground.data }, { on := 13, ground := Go.Ground.guard }], guard := some (13, false) }) (v := .bool false) rfl (by kernel_rfl) (by kernel_rfl) (by kernel_rfl) (fun _ _ _ h => h) (Or.inl ⟨by kernel_rfl, ?_⟩) hS2 ?_
              · intro w5 hSw
                go_simp
              simp only [Act.put, List.setIfInBounds_toArray, List.set_cons_zero, List.set_cons_succ]
              refine wpAnyH_take (i := 16) (oi := { dst := some 87, op := Go.Op.move (Go.Operand.tmp 86), type := 4, pos := "outright.go:225", after := #[{ on := 15, ground := Go.Ground.data }, { on := 13, ground := Go.Ground.chain }, { on := 13, ground := Go.Ground.guard }], guard := some (13, false) }) (v := .bool false) rfl (by kernel_rfl) (by kernel_rfl) (by kernel_rfl) (fun _ _ _ h => h) (Or.inl ⟨by kernel_rfl, ?_⟩) hS2 ?_
              · intro w5 hSw
                go_simp
              simp only [Act.put, List.setIfInBounds_toArray, List.set_cons_zero, List.set_cons_succ]
              refine wpAnyH_take (i := 17) (oi := { dst := some 88, op := Go.Op.move (Go.Operand.tmp 4), type := 22, pos := "outright.go:225", after := #[{ on := 16, ground := Go.Ground.guard }], guard := some (16, true) }) (v := undef) rfl (by kernel_rfl) (by kernel_rfl) (by kernel_rfl) (fun _ _ _ h => h) (Or.inr ⟨by kernel_rfl, rfl⟩) hS2 ?_
              simp only [Act.put, List.setIfInBounds_toArray, List.set_cons_zero, List.set_cons_succ]
              refine wpAnyH_take (i := 18) (oi := { dst := some 89, op := Go.Op.move (Go.Operand.tmp 10), type := 3, pos := "outright.go:225", after := #[{ on := 16, ground := Go.Ground.guard }], guard := some (16, true) }) (v := undef) rfl (by kernel_rfl) (by kernel_rfl) (by kernel_rfl) (fun _ _ _ h => h) (Or.inr ⟨by kernel_rfl, rfl⟩) hS2 ?_
              simp only [Act.put, List.setIfInBounds_toArray, List.set_cons_zero, List.set_cons_succ]
              refine wpAnyH_take (i := 19) (oi := { dst := some 90, op := Go.Op.binOp Go.BinOp.sub 3 (Go.Operand.tmp 89) (Go.Operand.const (Go.Value.int Go.IntKind.i64 1)) 3, type := 3, pos := "outright.go:225", after := #[{ on := 18, ground := Go.Ground.data }, { on := 16, ground := Go.Ground.guard }], guard := some (16, true) }) (v := undef) rfl (by kernel_rfl) (by kernel_rfl) (by kernel_rfl) (fun _ _ _ h => h) (Or.inr ⟨by kernel_rfl, rfl⟩) hS2 ?_
              simp only [Act.put, List.setIfInBounds_toArray, List.set_cons_zero, List.set_cons_succ]
              refine wpAnyH_take (i := 20) (oi := { dst := some 91, op := Go.Op.indexAddr 22 (Go.Operand.tmp 88) (Go.Operand.tmp 90), type := 0, pos := "outright.go:225", after := #[{ on := 17, ground := Go.Ground.data }, { on := 19, ground := Go.Ground.data }, { on := 16, ground := Go.Ground.guard }], guard := some (16, true) }) (v := undef) rfl (by kernel_rfl) (by kernel_rfl) (by kernel_rfl) (fun _ _ _ h => h) (Or.inr ⟨by kernel_rfl, rfl⟩) hS2 ?_
              simp only [Act.put, List.setIfInBounds_toArray, List.set_cons_zero, List.set_cons_succ]
              refine wpAnyH_take (i := 21) (oi := { dst := some 92, op := Go.Op.load 9 (Go.Operand.tmp 91), type := 9, pos := "outright.go:225", after := #[{ on := 20, ground := Go.Ground.data }, { on := 16, ground := Go.Ground.guard }], guard := some (16, true) }) (v := undef) rfl (by kernel_rfl) (by kernel_rfl) (by kernel_rfl) (fun _ _ _ h => h) (Or.inr ⟨by kernel_rfl, rfl⟩) hS2 ?_
              simp only [Act.put, List.setIfInBounds_toArray, List.set_cons_zero, List.set_cons_succ]
              refine wpAnyH_take (i := 22) (oi := { dst := some 93, op := Go.Op.move (Go.Operand.tmp 4), type := 22, pos := "outright.go:225", after := #[{ on := 16, ground := Go.Ground.guard }], guard := some (16, true) }) (v := undef) rfl (by kernel_rfl) (by kernel_rfl) (by kernel_rfl) (fun _ _ _ h => h) (Or.inr ⟨by kernel_rfl, rfl⟩) hS2 ?_
              simp only [Act.put, List.setIfInBounds_toArray, List.set_cons_zero, List.set_cons_succ]
              refine wpAnyH_take (i := 23) (oi := { dst := some 94, op := Go.Op.move (Go.Operand.tmp 10), type := 3, pos := "outright.go:225", after := #[{ on := 16, ground := Go.Ground.guard }], guard := some (16, true) }) (v := undef) rfl (by kernel_rfl) (by kernel_rfl) (by kernel_rfl) (fun _ _ _ h => h) (Or.inr ⟨by kernel_rfl, rfl⟩) hS2 ?_
              simp only [Act.put, List.setIfInBounds_toArray, List.set_cons_zero, List.set_cons_succ]
              refine wpAnyH_take (i := 24) (oi := { dst := some 95, op := Go.Op.indexAddr 22 (Go.Operand.tmp 93) (Go.Operand.tmp 94), type := 0, pos := "outright.go:225", after := #[{ on := 22, ground := Go.Ground.data }, { on := 23, ground := Go.Ground.data }, { on := 16, ground := Go.Ground.guard }], guard := some (16, true) }) (v := undef) rfl (by kernel_rfl) (by kernel_rfl) (by kernel_rfl) (fun _ _ _ h => h) (Or.inr ⟨by kernel_rfl, rfl⟩) hS2 ?_
              simp only [Act.put, List.setIfInBounds_toArray, List.set_cons_zero, List.set_cons_succ]
              refine wpAnyH_take (i := 25) (oi := { dst := some 96, op := Go.Op.load 9 (Go.Operand.tmp 95), type := 9, pos := "outright.go:225", after := #[{ on := 24, ground := Go.Ground.data }, { on := 16, ground := Go.Ground.guard }], guard := some (16, true) }) (v := undef) rfl (by kernel_rfl) (by kernel_rfl) (by kernel_rfl) (fun _ _ _ h => h) (Or.inr ⟨by kernel_rfl, rfl⟩) hS2 ?_
              simp only [Act.put, List.setIfInBounds_toArray, List.set_cons_zero, List.set_cons_succ]
              refine wpAnyH_take (i := 26) (oi := { dst := some 97, op := Go.Op.call { callee := Go.Callee.value (Go.Operand.func 12), args := #[Go.Operand.tmp 92, Go.Operand.tmp 96], argTypes := #[9, 9] }, type := 4, pos := "outright.go:225", after := #[{ on := 21, ground := Go.Ground.data }, { on := 25, ground := Go.Ground.data }, { on := 16, ground := Go.Ground.chain }, { on := 16, ground := Go.Ground.guard }], guard := some (16, true) }) (v := undef) rfl (by kernel_rfl) (by kernel_rfl) (by kernel_rfl) (fun _ _ _ h => h) (Or.inr ⟨by kernel_rfl, rfl⟩) hS2 ?_
              simp only [Act.put, List.setIfInBounds_toArray, List.set_cons_zero, List.set_cons_succ]
              refine wpAnyH_take (i := 27) (oi := { dst := some 98, op := Go.Op.unOp Go.UnOp.not 4 (Go.Operand.tmp 97), type := 4, pos := "outright.go:225", after := #[{ on := 26, ground := Go.Ground.data }, { on := 16, ground := Go.Ground.guard }], guard := some (16, true) }) (v := undef) rfl (by kernel_rfl) (by kernel_rfl) (by kernel_rfl) (fun _ _ _ h => h) (Or.inr ⟨by kernel_rfl, rfl⟩) hS2 ?_
              simp only [Act.put, List.setIfInBounds_toArray, List.set_cons_zero, List.set_cons_succ]
              refine wpAnyH_take (i := 28) (oi := { dst := some 99, op := Go.Op.pick (Go.Operand.tmp 87) (Go.Operand.tmp 98) (Go.Operand.const (Go.Value.bool false)), type := 4, pos := "outright.go:225", after := #[{ on := 16, ground := Go.Ground.data }, { on := 27, ground := Go.Ground.data }, { on := 13, ground := Go.Ground.guard }], guard := some (13, false) }) (v := .bool false) rfl (by kernel_rfl) (by kernel_rfl) (by kernel_rfl) (fun _ _ _ h => h) (Or.inl ⟨by kernel_rfl, ?_⟩) hS2 ?_
              · intro w5 hSw
                go_simp
              simp only [Act.put, List.setIfInBounds_toArray, List.set_cons_zero, List.set_cons_succ]
              refine wpAnyH_take (i := 29) (oi := { dst := some 100, op := Go.Op.pick (Go.Operand.tmp 84) (Go.Operand.const (Go.Value.bool true)) (Go.Operand.tmp 99), type := 4, pos := "outright.go:225", after := #[{ on := 13, ground := Go.Ground.data }, { on := 28, ground := Go.Ground.data }], guard := none }) (v := .bool false) rfl (by kernel_rfl) (by kernel_rfl) (by kernel_rfl) (fun _ _ _ h => h) (Or.inl ⟨by kernel_rfl, ?_⟩) hS2 ?_
              · intro w5 hSw
                go_simp
              simp only [Act.put, List.setIfInBounds_toArray, List.set_cons_zero, List.set_cons_succ]
              refine wpAnyH_done (by kernel_rfl) ?_ _
              have H4 := Hid.of hS2
              clear hS2
              go_wp2
              go_roundw
              case rel => exact ⟨1, by go_num, by omega, hJ.out.trans H4.out⟩
              case measure => simp [intOf]; omega
            · obtain ⟨y, hy1, hy2⟩ := ba_of (ls[j]'(by omega))
              have HCY := Hid.of (hget j (by omega))
              rw [hy2] at HCY
              have hjz : (j : Int) < (n : Int) := by omega
              have hi0 : 0 < i2 := by omega
              have HIJ := Hid.of (show (i2 : Int) - 1 = (j : Int) by omega)
              have hpw := List.pairwise_iff_getElem.1 HP.out.2 j i2 (by omega) hil (by omega)
              rw [← hx1, ← hy1] at hpw
              have g1 := hgood j (by omega)
              have g2 := hgood i2 hil
              rw [← hx1, len_of] at g2
              rw [← hy1, len_of] at g1
              have HAF := fun w' => fun (u : Up wc w') => Hid.of (after_walk y x g1.2 g2.2 g1.1 g2.1 hpw w' (HG.out.up ((HU0.out.trans hJ.out).trans u)))
              clear hln hget hgood hx1 hx2 hy1 hy2 g1 g2 hpw hj
              go_wp2
              refine wp_region_held_drew (S := fun w2 => Up wc w2) (by kernel_rfl) ((Up.refl wc).drew) (fun hS => ?_)
              refine wpAnyH_take (i := 0) (oi := { dst := some 71, op := Go.Op.move (Go.Operand.tmp 4), type := 22, pos := "outright.go:225", after := #[], guard := none }) (v := .slice (some ⟨g, 0, none⟩) n n) rfl (by kernel_rfl) (by kernel_rfl) (by kernel_rfl) (fun _ _ _ h => h) (Or.inl ⟨by kernel_rfl, ?_⟩) hS ?_
              · intro w5 hSw
                go_simp
              simp only [Act.put, List.setIfInBounds_toArray, List.set_cons_zero, List.set_cons_succ]
              refine wpAnyH_take (i := 1) (oi := { dst := some 72, op := Go.Op.move (Go.Operand.tmp 4), type := 22, pos := "outright.go:225", after := #[], guard := none }) (v := .slice (some ⟨g, 0, none⟩) n n) rfl (by kernel_rfl) (by kernel_rfl) (by kernel_rfl) (fun _ _ _ h => h) (Or.inl ⟨by kernel_rfl, ?_⟩) hS ?_
              · intro w5 hSw
                go_simp
              simp only [Act.put, List.setIfInBounds_toArray, List.set_cons_zero, List.set_cons_succ]
              refine wpAnyH_take (i := 2) (oi := { dst := some 73, op := Go.Op.move (Go.Operand.tmp 10), type := 3, pos := "outright.go:225", after := #[], guard := none }) (v := .int .i64 (i2 : Int)) rfl (by kernel_rfl) (by kernel_rfl) (by kernel_rfl) (fun _ _ _ h => h) (Or.inl ⟨by kernel_rfl, ?_⟩) hS ?_
              · intro w5 hSw
                go_simp
              simp only [Act.put, List.setIfInBounds_toArray, List.set_cons_zero, List.set_cons_succ]
              refine wpAnyH_take (i := 3) (oi := { dst := some 74, op := Go.Op.indexAddr 22 (Go.Operand.tmp 72) (Go.Operand.tmp 73), type := 0, pos := "outright.go:225", after := #[{ on := 1, ground := Go.Ground.data }, { on := 2, ground := Go.Ground.data }], guard := none }) (v := .pointer (some ⟨g, i2, none⟩)) rfl (by kernel_rfl) (by kernel_rfl) (by kernel_rfl) (fun _ _ _ h => h) (Or.inl ⟨by kernel_rfl, ?_⟩) hS ?_
              · intro w5 hSw
                go_simp
              simp only [Act.put, List.setIfInBounds_toArray, List.set_cons_zero, List.set_cons_succ]
              refine wpAnyH_take (i := 4) (oi := { dst := some 75, op := Go.Op.load 9 (Go.Operand.tmp 74), type := 9, pos := "outright.go:225", after := #[{ on := 3, ground := Go.Ground.data }], guard := none }) (v := .string x) rfl (by kernel_rfl) (by kernel_rfl) (by kernel_rfl) (fun _ _ _ h => h) (Or.inl ⟨by kernel_rfl, ?_⟩) hS ?_
              · intro w5 hSw
                have hq := hSw.cell HCX.out
                go_simp
              simp only [Act.put, List.setIfInBounds_toArray, List.set_cons_zero, List.set_cons_succ]
              refine wpAnyH_take (i := 6) (oi := { dst := some 77, op := Go.Op.move (Go.Operand.tmp 0), type := 22, pos := "outright.go:225", after := #[], guard := none }) (v := .slice a n c) rfl (by kernel_rfl) (by kernel_rfl) (by kernel_rfl) (fun _ _ _ h => h) (Or.inl ⟨by kernel_rfl, ?_⟩) hS ?_
              · intro w5 hSw
                go_simp
              simp only [Act.put, List.setIfInBounds_toArray, List.set_cons_zero, List.set_cons_succ]
              refine wpAnyH_take (i := 7) (oi := { dst := some 78, op := Go.Op.move (Go.Operand.tmp 4), type := 22, pos := "outright.go:225", after := #[], guard := none }) (v := .slice (some ⟨g, 0, none⟩) n n) rfl (by kernel_rfl) (by kernel_rfl) (by kernel_rfl) (fun _ _ _ h => h) (Or.inl ⟨by kernel_rfl, ?_⟩) hS ?_
              · intro w5 hSw
                go_simp
              simp only [Act.put, List.setIfInBounds_toArray, List.set_cons_zero, List.set_cons_succ]
              refine wpAnyH_take (i := 8) (oi := { dst := some 79, op := Go.Op.move (Go.Operand.tmp 10), type := 3, pos := "outright.go:225", after := #[], guard := none }) (v := .int .i64 (i2 : Int)) rfl (by kernel_rfl) (by kernel_rfl) (by kernel_rfl) (fun _ _ _ h => h) (Or.inl ⟨by kernel_rfl, ?_⟩) hS ?_
              · intro w5 hSw
                go_simp
              simp only [Act.put, List.setIfInBounds_toArray, List.set_cons_zero, List.set_cons_succ]
              refine wpAnyH_take (i := 9) (oi := { dst := some 80, op := Go.Op.indexAddr 22 (Go.Operand.tmp 78) (Go.Operand.tmp 79), type := 0, pos := "outright.go:225", after := #[{ on := 7, ground := Go.Ground.data }, { on := 8, ground := Go.Ground.data }], guard := none }) (v := .pointer (some ⟨g, i2, none⟩)) rfl (by kernel_rfl) (by kernel_rfl) (by kernel_rfl) (fun _ _ _ h => h) (Or.inl ⟨by kernel_rfl, ?_⟩) hS ?_
              · intro w5 hSw
                go_simp
              simp only [Act.put, List.setIfInBounds_toArray, List.set_cons_zero, List.set_cons_succ]
              refine wpAnyH_take (i := 10) (oi := { dst := some 81, op := Go.Op.load 9 (Go.Operand.tmp 80), type := 9, pos := "outright.go:225", after := #[{ on := 9, ground := Go.Ground.data }], guard := none }) (v := .string x) rfl (by kernel_rfl) (by kernel_rfl) (by kernel_rfl) (fun _ _ _ h => h) (Or.inl ⟨by kernel_rfl, ?_⟩) hS ?_
              · intro w5 hSw
                have hq := hSw.cell HCX.out
                go_simp
              simp only [Act.put, List.setIfInBounds_toArray, List.set_cons_zero, List.set_cons_succ]
              refine wpAnyH_ready (rs := [5]) (by kernel_rfl) (by simp) ?_
              refine AllReadyH.cons (o := { dst := some 76, op := Go.Op.call { callee := Go.Callee.value (Go.Operand.func 11), args := #[Go.Operand.tmp 71, Go.Operand.tmp 75], argTypes := #[22, 9] }, type := 3, pos := "outright.go:225", after := #[{ on := 0, ground := Go.Ground.data }, { on := 4, ground := Go.Ground.data }], guard := none }) rfl (fun K hK => ?_) AllReadyH.nil
              rw [if_pos (by kernel_rfl)]
              go_simp
              refine (HN1 _ hS).out.mono ?_
              rintro e v1 ⟨rfl, u1⟩
              obtain rfl := u1.symm
              dsimp only
              refine hK.out _ _ hS (fun hS1 => ?_)
              clear hK hS
              refine wpAnyH_ready (rs := [11]) (by kernel_rfl) (by simp) ?_
              refine AllReadyH.cons (o := { dst := some 82, op := Go.Op.call { callee := Go.Callee.value (Go.Operand.func 11), args := #[Go.Operand.tmp 77, Go.Operand.tmp 81], argTypes := #[22, 9] }, type := 3, pos := "outright.go:225", after := #[{ on := 6, ground := Go.Ground.data }, { on := 10, ground := Go.Ground.data }, { on := 5, ground := Go.Ground.chain }], guard := none }) rfl (fun K hK => ?_) AllReadyH.nil
              rw [if_pos (by kernel_rfl)]
              go_simp
              refine (HN2 _ hS1).out.mono ?_
              rintro e v2 ⟨rfl, u2⟩
              obtain rfl := u2.symm
              dsimp only
              refine hK.out _ _ hS1 (fun hS2 => ?_)
              clear hK hS1
              refine wpAnyH_take (i := 12) (oi := { dst := some 83, op := Go.Op.binOp Go.BinOp.neq 3 (Go.Operand.tmp 76) (Go.Operand.tmp 82) 3, type := 4, pos := "outright.go:225", after := #[{ on := 5, ground := Go.Ground.data }, { on := 11, ground := Go.Ground.data }], guard := none }) (v := .bool false) rfl (by kernel_rfl) (by kernel_rfl) (by kernel_rfl) (fun _ _ _ h => h) (Or.inl ⟨by kernel_rfl, ?_⟩) hS2 ?_
              · intro w5 hSw
                go_simp
              simp only [Act.put, List.setIfInBounds_toArray, List.set_cons_zero, List.set_cons_succ]
              refine wpAnyH_take (i := 13) (oi := { dst := some 84, op := Go.Op.move (Go.Operand.tmp 83), type := 4, pos := "outright.go:225", after := #[{ on := 12, ground := Go.Ground.data }, { on := 11, ground := Go.Ground.chain }], guard := none }) (v := .bool false) rfl (by kernel_rfl) (by kernel_rfl) (by kernel_rfl) (fun _ _ _ h => h) (Or.inl ⟨by kernel_rfl, ?_⟩) hS2 ?_
              · intro w5 hSw
                go_simp
              simp only [Act.put, List.setIfInBounds_toArray, List.set_cons_zero, List.set_cons_succ]
              refine wpAnyH_take (i := 14) (oi := { dst := some 85, op := Go.Op.move (Go.Operand.tmp 10), type := 3, pos := "outright.go:225", after := #[{ on := 13, ground := Go.Ground.guard }], guard := some (13, false) }) (v := .int .i64 (i2 : Int)) rfl (by kernel_rfl) (by kernel_rfl) (by kernel_rfl) (fun _ _ _ h => h) (Or.inl ⟨by kernel_rfl, ?_⟩) hS2 ?_
              · intro w5 hSw
                go_simp
              simp only [Act.put, List.setIfInBounds_toArray, List.set_cons_zero, List.set_cons_succ]
              refine wpAnyH_take (i := 15) (oi := { dst := some 86, op := Go.Op.binOp Go.BinOp.gtr 3 (Go.Operand.tmp 85) (Go.Operand.const (Go.Value.int Go.IntKind.i64 0)) 3, type := 4, pos := "outright.go:225", after := #[{ on := 14, ground := Go.Ground.data }, { on := 13, ground := Go.Ground.guard }], guard := some (13, false) }) (v := .bool true) rfl (by kernel_rfl) (by kernel_rfl) (by kernel_rfl) (fun _ _ _ h => h) (Or.inl ⟨by kernel_rfl, ?_⟩) hS2 ?_
              · intro w5 hSw
                go_simp
              simp only [Act.put, List.setIfInBounds_toArray, List.set_cons_zero, List.set_cons_succ]
              refine wpAnyH_take (i := 16) (oi := { dst := some 87, op := Go.Op.move (Go.Operand.tmp 86), type := 4, pos := "outright.go:225", after := #[{ on := 15, ground := Go.Ground.data }, { on := 13, ground := Go.Ground.chain }, { on := 13, ground := Go.Ground.guard }], guard := some (13, false) }) (v := .bool true) rfl (by kernel_rfl) (by kernel_rfl) (by kernel_rfl) (fun _ _ _ h => h) (Or.inl ⟨by kernel_rfl, ?_⟩) hS2 ?_
              · intro w5 hSw
                go_simp
              simp only [Act.put, List.setIfInBounds_toArray, List.set_cons_zero, List.set_cons_succ]
              refine wpAnyH_take (i := 17) (oi := { dst := some 88, op := Go.Op.move (Go.Operand.tmp 4), type := 22, pos := "outright.go:225", after := #[{ on := 16, ground := Go.Ground.guard }], guard := some (16, true) }) (v := .slice (some ⟨g, 0, none⟩) n n) rfl (by kernel_rfl) (by kernel_rfl) (by kernel_rfl) (fun _ _ _ h => h) (Or.inl ⟨by kernel_rfl, ?_⟩) hS2 ?_
              · intro w5 hSw
                go_simp
              simp only [Act.put, List.setIfInBounds_toArray, List.set_cons_zero, List.set_cons_succ]
              refine wpAnyH_take (i := 18) (oi := { dst := some 89, op := Go.Op.move (Go.Operand.tmp 10), type := 3, pos := "outright.go:225", after := #[{ on := 16, ground := Go.Ground.guard }], guard := some (16, true) }) (v := .int .i64 (i2 : Int)) rfl (by kernel_rfl) (by kernel_rfl) (by kernel_rfl) (fun _ _ _ h => h) (Or.inl ⟨by kernel_rfl, ?_⟩) hS2 ?_
              · intro w5 hSw
                go_simp
              simp only [Act.put, List.setIfInBounds_toArray, List.set_cons_zero, List.set_cons_succ]
              refine wpAnyH_take (i := 19) (oi := { dst := some 90, op := Go.Op.binOp Go.BinOp.sub 3 (Go.Operand.tmp 89) (Go.Operand.const (Go.Value.int Go.IntKind.i64 1)) 3, type := 3, pos := "outright.go:225", after := #[{ on := 18, ground := Go.Ground.data }, { on := 16, ground := Go.Ground.guard }], guard := some (16, true) }) (v := .int .i64 (j : Int)) rfl (by kernel_rfl) (by kernel_rfl) (by kernel_rfl) (fun _ _ _ h => h) (Or.inl ⟨by kernel_rfl, ?_⟩) hS2 ?_
              · intro w5 hSw
                rw [← HIJ.out]
                go_simp
                rw [HIJ.out]; simp [IntKind.wrap, IntKind.bits, IntKind.signed]; omega
              simp only [Act.put, List.setIfInBounds_toArray, List.set_cons_zero, List.set_cons_succ]
              refine wpAnyH_take (i := 20) (oi := { dst := some 91, op := Go.Op.indexAddr 22 (Go.Operand.tmp 88) (Go.Operand.tmp 90), type := 0, pos := "outright.go:225", after := #[{ on := 17, ground := Go.Ground.data }, { on := 19, ground := Go.Ground.data }, { on := 16, ground := Go.Ground.guard }], guard := some (16, true) }) (v := .pointer (some ⟨g, j, none⟩)) rfl (by kernel_rfl) (by kernel_rfl) (by kernel_rfl) (fun _ _ _ h => h) (Or.inl ⟨by kernel_rfl, ?_⟩) hS2 ?_
              · intro w5 hSw
                go_simp
              simp only [Act.put, List.setIfInBounds_toArray, List.set_cons_zero, List.set_cons_succ]
              refine wpAnyH_take (i := 21) (oi := { dst := some 92, op := Go.Op.load 9 (Go.Operand.tmp 91), type := 9, pos := "outright.go:225", after := #[{ on := 20, ground := Go.Ground.data }, { on := 16, ground := Go.Ground.guard }], guard := some (16, true) }) (v := .string y) rfl (by kernel_rfl) (by kernel_rfl) (by kernel_rfl) (fun _ _ _ h => h) (Or.inl ⟨by kernel_rfl, ?_⟩) hS2 ?_
              · intro w5 hSw
                have hq := hSw.cell HCY.out
                go_simp
              simp only [Act.put, List.setIfInBounds_toArray, List.set_cons_zero, List.set_cons_succ]
              refine wpAnyH_take (i := 22) (oi := { dst := some 93, op := Go.Op.move (Go.Operand.tmp 4), type := 22, pos := "outright.go:225", after := #[{ on := 16, ground := Go.Ground.guard }], guard := some (16, true) }) (v := .slice (some ⟨g, 0, none⟩) n n) rfl (by kernel_rfl) (by kernel_rfl) (by kernel_rfl) (fun _ _ _ h => h) (Or.inl ⟨by kernel_rfl, ?_⟩) hS2 ?_
              · intro w5 hSw
                go_simp
              simp only [Act.put, List.setIfInBounds_toArray, List.set_cons_zero, List.set_cons_succ]
              refine wpAnyH_take (i := 23) (oi := { dst := some 94, op := Go.Op.move (Go.Operand.tmp 10), type := 3, pos := "outright.go:225", after := #[{ on := 16, ground := Go.Ground.guard }], guard := some (16, true) }) (v := .int .i64 (i2 : Int)) rfl (by kernel_rfl) (by kernel_rfl) (by kernel_rfl) (fun _ _ _ h => h) (Or.inl ⟨by kernel_rfl, ?_⟩) hS2 ?_
              · intro w5 hSw
                go_simp
              simp only [Act.put, List.setIfInBounds_toArray, List.set_cons_zero, List.set_cons_succ]
              refine wpAnyH_take (i := 24) (oi := { dst := some 95, op := Go.Op.indexAddr 22 (Go.Operand.tmp 93) (Go.Operand.tmp 94), type := 0, pos := "outright.go:225", after := #[{ on := 22, ground := Go.Ground.data }, { on := 23, ground := Go.Ground.data }, { on := 16, ground := Go.Ground.guard }], guard := some (16, true) }) (v := .pointer (some ⟨g, i2, none⟩)) rfl (by kernel_rfl) (by kernel_rfl) (by kernel_rfl) (fun _ _ _ h => h) (Or.inl ⟨by kernel_rfl, ?_⟩) hS2 ?_
              · intro w5 hSw
                go_simp
              simp only [Act.put, List.setIfInBounds_toArray, List.set_cons_zero, List.set_cons_succ]
              refine wpAnyH_take (i := 25) (oi := { dst := some 96, op := Go.Op.load 9 (Go.Operand.tmp 95), type := 9, pos := "outright.go:225", after := #[{ on := 24, ground := Go.Ground.data }, { on := 16, ground := Go.Ground.guard }], guard := some (16, true) }) (v := .string x) rfl (by kernel_rfl) (by kernel_rfl) (by kernel_rfl) (fun _ _ _ h => h) (Or.inl ⟨by kernel_rfl, ?_⟩) hS2 ?_
              · intro w5 hSw
                have hq := hSw.cell HCX.out
                go_simp
              simp only [Act.put, List.setIfInBounds_toArray, List.set_cons_zero, List.set_cons_succ]
              refine wpAnyH_ready (rs := [26]) (by kernel_rfl) (by simp) ?_
              refine AllReadyH.cons (o := { dst := some 97, op := Go.Op.call { callee := Go.Callee.value (Go.Operand.func 12), args := #[Go.Operand.tmp 92, Go.Operand.tmp 96], argTypes := #[9, 9] }, type := 4, pos := "outright.go:225", after := #[{ on := 21, ground := Go.Ground.data }, { on := 25, ground := Go.Ground.data }, { on := 16, ground := Go.Ground.chain }, { on := 16, ground := Go.Ground.guard }], guard := some (16, true) }) rfl (fun K hK => ?_) AllReadyH.nil
              rw [if_pos (by kernel_rfl)]
              go_simp
              refine (HAF _ hS2).out.mono ?_
              rintro e v3 ⟨rfl, u3⟩
              dsimp only
              refine hK.out _ _ (hS2.trans u3) (fun hS3 => ?_)
              clear hK hS2
              refine wpAnyH_take (i := 27) (oi := { dst := some 98, op := Go.Op.unOp Go.UnOp.not 4 (Go.Operand.tmp 97), type := 4, pos := "outright.go:225", after := #[{ on := 26, ground := Go.Ground.data }, { on := 16, ground := Go.Ground.guard }], guard := some (16, true) }) (v := .bool false) rfl (by kernel_rfl) (by kernel_rfl) (by kernel_rfl) (fun _ _ _ h => h) (Or.inl ⟨by kernel_rfl, ?_⟩) hS3 ?_
              · intro w5 hSw
                go_simp
              simp only [Act.put, List.setIfInBounds_toArray, List.set_cons_zero, List.set_cons_succ]
              refine wpAnyH_take (i := 28) (oi := { dst := some 99, op := Go.Op.pick (Go.Operand.tmp 87) (Go.Operand.tmp 98) (Go.Operand.const (Go.Value.bool false)), type := 4, pos := "outright.go:225", after := #[{ on := 16, ground := Go.Ground.data }, { on := 27, ground := Go.Ground.data }, { on := 13, ground := Go.Ground.guard }], guard := some (13, false) }) (v := .bool false) rfl (by kernel_rfl) (by kernel_rfl) (by kernel_rfl) (fun _ _ _ h => h) (Or.inl ⟨by kernel_rfl, ?_⟩) hS3 ?_
              · intro w5 hSw
                go_simp
              simp only [Act.put, List.setIfInBounds_toArray, List.set_cons_zero, List.set_cons_succ]
              refine wpAnyH_take (i := 29) (oi := { dst := some 100, op := Go.Op.pick (Go.Operand.tmp 84) (Go.Operand.const (Go.Value.bool true)) (Go.Operand.tmp 99), type := 4, pos := "outright.go:225", after := #[{ on := 13, ground := Go.Ground.data }, { on := 28, ground := Go.Ground.data }], guard := none }) (v := .bool false) rfl (by kernel_rfl) (by kernel_rfl) (by kernel_rfl) (fun _ _ _ h => h) (Or.inl ⟨by kernel_rfl, ?_⟩) hS3 ?_
              · intro w5 hSw
                go_simp
              simp only [Act.put, List.setIfInBounds_toArray, List.set_cons_zero, List.set_cons_succ]
              refine wpAnyH_done (by kernel_rfl) ?_ _
              have H4 := Hid.of hS3
              clear hS3
              go_wp2
              go_roundw
              case rel => exact ⟨i2 + 1, by go_num, by omega, hJ.out.trans H4.out⟩
              case measure => simp [intOf]; omega
          · have hlz : ¬ (i2 : Int) < (n : Int) := by omega
            go_wp2
            go_ret
            exact ⟨rfl, HU0.out.trans hJ.out⟩
end Go.Proofs.YtnciglpdjpckiaaGreatDoor
namespace Go.Proofs.YtnciglpdjpckiaaGreatDoor
open Go.ChangeShapes Go.WideShapes Go.ChangeAt Go.WideMaps Go.WideElems Go.RowKit TextNum
theorem one_leB {H : Type} (d : DataW H) : 1 ≤ Rows.uptoBulk d := by
  cases d with
  | lit l => cases l <;> simp [Rows.uptoBulk]
  | nil => simp [Rows.uptoBulk]
  | ptr d => simp [Rows.uptoBulk]
  | slice elems spare => simp [Rows.uptoBulk]
  | agg parts => simp [Rows.uptoBulk]
  | iface t d => simp [Rows.uptoBulk]
  | map entries => simp [Rows.uptoBulk]
  | held h => simp [Rows.uptoBulk]
theorem len_leB {H : Type} : ∀ (l : List (DataW H)), l.length ≤ Rows.uptoBulkAll l
  | [] => Nat.zero_le _
  | x :: r => by have := one_leB x; have := len_leB r; simp only [Rows.uptoBulkAll, List.length_cons]; omega
theorem bulk_mem {H : Type} : ∀ {ds : List (DataW H)} {j : Nat} {d : DataW H}, ds[j]? = some d → Rows.uptoBulk d ≤ Rows.uptoBulkAll ds
  | d0 :: ds, 0, d, hd => by
    simp only [List.getElem?_cons_zero, Option.some.injEq] at hd
    subst hd
    simp only [Rows.uptoBulkAll]
    omega
  | d0 :: ds, j + 1, d, hd => by
    simp only [List.getElem?_cons_succ] at hd
    have := bulk_mem hd
    simp only [Rows.uptoBulkAll]
    omega
  | [], _, _, hd => by simp at hd
theorem plain_of {W : World} {ad : Addr} {v : Value} (h : W.cell? (ad.add 0) = some v) : ad.spot = none := by
  have e : ad.add 0 = ad := by unfold Addr.add; rw [if_pos rfl]
  rw [e] at h
  obtain ⟨b, off, sp⟩ := ad
  cases sp with
  | none => rfl
  | some s => exfalso; simp only [World.cell?] at h; split at h <;> simp at h
set_option maxRecDepth 100000 in
theorem cellsStr : Tryz.prog.cellsOf 9 = 1 := by kernel_rfl
set_option maxRecDepth 100000 in
/-- texts as an argument, with the bulk -/
theorem st_openC {H : Type} {enc : TypeId × Value → H} {W : World} {v : Value} {d : DataW H} {ps : List MemPlace}
    (h : DataW.Trod enc Tryz.prog W 0 (fun _ => true) true 22 v d ps) (a : Option Addr) (len cap : Nat) (hv : v = .slice a len cap) : ∃ ks, SlS W v ks ∧ ks.length ≤ Rows.uptoBulk d ∧ ∀ s ∈ ks, s.length ≤ Rows.uptoBulk d := by
  subst hv
  obtain ⟨fuel, hf⟩ := h
  have hf' : DataW.trod enc Tryz.prog W 0 (fun _ => true) true fuel 22 [.slice a len cap] = some (d, ps) := hf
  rcases DataW.trod_slice Tryz.underlying22 hf' with ⟨e1, _⟩ | ⟨ad, l2, c2, elems, rest, n, _, e1, hx, _, hlc, hcm, hel0, hel, _, _⟩
  · simp only [List.cons.injEq, Value.slice.injEq, and_true] at e1
    obtain ⟨rfl, rfl, rfl⟩ := e1
    exact ⟨[], slS_nil W, Nat.zero_le _, fun s hs => by cases hs⟩
  · simp only [List.cons.injEq, Value.slice.injEq, and_true] at e1
    obtain ⟨rfl, rfl, rfl⟩ := e1
    injection hx with hd _
    rw [cellsStr] at hel
    have hbulk : Rows.uptoBulkAll (elems.map (·.1)) ≤ Rows.uptoBulk d := by
      rw [hd]
      simp only [Rows.uptoBulk]
      omega
    have key : ∀ i, i < len → ∃ s : ByteArray, W.cell? (ad.add i) = some (.string s) ∧ s.size ≤ Rows.uptoBulk d := by
      intro i hi
      have h1 := hel i hi
      rw [List.getElem?_eq_getElem (by omega), Option.bind_eq_some_iff] at h1
      obtain ⟨cs, hcs, hy⟩ := h1
      obtain ⟨s, rfl, hs, _⟩ := DataW.trod_string Tryz.underlying9 hy
      have h4 := (World.cells?_some hcs).2.2 0 (by decide)
      rw [Nat.mul_one] at h4
      have e : (ad.add i).add 0 = ad.add i := by
        obtain ⟨b, off, sp⟩ := ad
        unfold Addr.add
        split <;> simp_all
      rw [e] at h4
      refine ⟨s, h4.trans rfl, ?_⟩
      have hbm := bulk_mem (ds := elems.map (·.1)) (j := i) (d := (elems[i]'(by omega)).1) (by rw [List.getElem?_map, List.getElem?_eq_getElem (by omega)]; rfl)
      have he : (elems[i]'(by omega)).1 = .lit (.string s.data.toList) := congrArg Prod.fst hs
      rw [he] at hbm
      simp only [Rows.uptoBulk] at hbm
      rw [Go.Lib.size_eq]
      omega
    have mk : ∀ k, k ≤ len → ∃ ss : List ByteArray, ss.length = k ∧ ∀ i (hi : i < ss.length), W.cell? (ad.add i) = some (.string ss[i]) ∧ (ss[i]).size ≤ Rows.uptoBulk d := by
      intro k
      induction k with
      | zero => exact fun _ => ⟨[], rfl, fun i hi => by cases hi⟩
      | succ k ih =>
        intro hk
        obtain ⟨ts, hl, ht⟩ := ih (by omega)
        obtain ⟨s, hk2⟩ := key k (by omega)
        refine ⟨ts ++ [s], by rw [List.length_append, hl]; rfl, fun i hi => ?_⟩
        by_cases hik : i < ts.length
        · rw [List.getElem_append_left hik]
          exact ht i hik
        · have e : i = k := by rw [List.length_append] at hi; simp at hi; omega
          subst e
          rw [List.getElem_append_right (by omega)]
          simp only [hl, Nat.sub_self, List.getElem_cons_zero]
          exact hk2
    obtain ⟨ss, hl, ht⟩ := mk len (Nat.le_refl _)
    refine ⟨ss.map fun s : ByteArray => s.data.toList, ⟨some ad, cap, by rw [List.length_map, hl], by rw [List.length_map, hl]; exact hlc, ?_⟩, ?_, fun s hs => ?_⟩
    · by_cases h0 : ss = []
      · exact .inl (by rw [h0]; rfl)
      · have hp : 0 < ss.length := List.length_pos_iff.2 h0
        have hsp := plain_of (ht 0 hp).1
        obtain ⟨b, off, sp⟩ := ad
        obtain rfl : sp = none := hsp
        have hc : ∀ i (hi : i < (ss.map fun s : ByteArray => s.data.toList).length), W.cell? ⟨b, off + i, none⟩ = some (.string ⟨((ss.map fun s : ByteArray => s.data.toList)[i]).toArray⟩) := fun i hi => by
          have h1 := (ht i (by simpa using hi)).1
          rw [add_plain] at h1
          rw [h1, List.getElem_map]
        exact .inr ⟨b, off, rfl, lt_of_cell (hc 0 (by simpa using hp)), hc⟩
    · rw [List.length_map, hl]
      have := len_leB (elems.map (·.1))
      rw [List.length_map] at this
      omega
    · obtain ⟨x, hx, rfl⟩ := List.mem_map.1 hs
      obtain ⟨i, hi, rfl⟩ := List.mem_iff_getElem.1 hx
      rw [len_of]
      exact (ht i hi).2
set_option maxRecDepth 100000 in
theorem st_openS {H : Type} {enc : TypeId × Value → H} {W : World} {v : Value} {d : DataW H} {ps : List MemPlace} {base : Nat}
    (hval : Value.okWide Tryz.prog W .any base 22 v) (h : DataW.Trod enc Tryz.prog W 0 (fun _ => true) true 22 v d ps) : ∃ ks, SlS W v ks ∧ ks.length ≤ Rows.uptoBulk d ∧ ∀ s ∈ ks, s.length ≤ Rows.uptoBulk d := by
  obtain ⟨a, len, cap, rfl⟩ := okWide_slice Tryz.underlying22 hval
  exact st_openC h a len cap rfl
theorem glSorts {W : World} (h : laidMetH Tryz.prog Rows.modverSortsUptoRow.laid W) (hs : W.ShapedOpen Tryz.prog) : GR W := by
  rw [MakeChecks.laidMetH_plain _ _ _ (by kernel_rfl)] at h
  exact ⟨⟨chars_of (Go.Lib.laidMet.reads h (by simp [Rows.modverSortsUptoRow])), max_of hs⟩, res_of (Go.Lib.laidMet.reads h (by simp [Rows.modverSortsUptoRow]))⟩
end Go.Proofs.YtnciglpdjpckiaaGreatDoor
