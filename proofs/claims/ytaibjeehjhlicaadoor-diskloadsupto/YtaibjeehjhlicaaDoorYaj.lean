import Derived.Test.YtaibjeehjhlicaaDoorYah
import Derived.Test.YtaibjeehjhlicaaDoorYab
namespace Go.Proofs.YtaibjeehjhlicaaDoor
open Go.RowKit Go.Shelf TextNum ModNum
/-- a file of any disk -/
structure FL where
  b : Nat
  vn : Value
  vl : Value
  vo : Value
  nb : List UInt8
  lb : List UInt8
  lo : List LW
def vbs (v : Value) : List Nat := v.ownBlock.toList
theorem mem_vbs {v : Value} {k : Nat} : k ∈ vbs v ↔ v.ownBlock = some k := by
  unfold vbs
  cases v.ownBlock <;> simp [eq_comm]
/-- the blocks that are the file's own -/
def fbs (f : FL) : List Nat := f.b :: (vbs f.vn ++ (vbs f.vl ++ (vbs f.vo ++ f.lo.flatMap fun l => l.ba :: l.bk :: vbs l.vk)))
structure FOk (w : World) (B : Nat) (f : FL) : Prop where
  low : B ≤ f.b
  file : At w f.b 51 [f.vn, f.vl, f.vo]
  now : Ow w B f.vn f.nb
  last : Ow w B f.vl f.lb
  apart : ∀ g, f.vn.ownBlock = some g → f.vl.ownBlock ≠ some g
  loose : w.ownsRow B 123 3 f.vo f.lo.length (lcs f.lo)
  each : ∀ l ∈ f.lo, LOk w B f.vn f.vl l
theorem FOk.up {w w' : World} {B : Nat} {f : FL} (h : FOk w B f) (k : Up w w') : FOk w' B f :=
  ⟨h.low, h.file.up k, ow_up h.now k, ow_up h.last k, h.apart, ow_up h.loose k, fun l hl => (h.each l hl).up k⟩
theorem FOk.fr {S : Nat → Prop} {w w' : World} {B : Nat} {f : FL} (h : FOk w B f) (k : Fr S w w') (hS : ∀ b ∈ fbs f, ¬ S b) : FOk w' B f := by
  have m1 : f.b ∈ fbs f := List.mem_cons_self
  have m2 : ∀ g, f.vn.ownBlock = some g → g ∈ fbs f := fun g hg => List.mem_cons_of_mem _ (List.mem_append_left _ (mem_vbs.2 hg))
  have m3 : ∀ g, f.vl.ownBlock = some g → g ∈ fbs f := fun g hg => List.mem_cons_of_mem _ (List.mem_append_right _ (List.mem_append_left _ (mem_vbs.2 hg)))
  have m4 : ∀ g, f.vo.ownBlock = some g → g ∈ fbs f := fun g hg => List.mem_cons_of_mem _ (List.mem_append_right _ (List.mem_append_right _ (List.mem_append_left _ (mem_vbs.2 hg))))
  have m5 : ∀ l ∈ f.lo, ∀ g, (g = l.ba ∨ g = l.bk ∨ l.vk.ownBlock = some g) → g ∈ fbs f := fun l hl g hg => List.mem_cons_of_mem _ (List.mem_append_right _ (List.mem_append_right _ (List.mem_append_right _ (List.mem_flatMap.2 ⟨l, hl, by
    rcases hg with rfl | rfl | hg
    · exact List.mem_cons_self
    · exact List.mem_cons_of_mem _ List.mem_cons_self
    · exact List.mem_cons_of_mem _ (List.mem_cons_of_mem _ (mem_vbs.2 hg))⟩))))
  exact ⟨h.low, k.at h.file (hS _ m1), k.own h.now (fun g hg => hS g (m2 g hg)), k.own h.last (fun g hg => hS g (m3 g hg)), h.apart, k.own h.loose (fun g hg => hS g (m4 g hg)), fun l hl =>
    have he := h.each l hl
    ⟨k.at he.pa (hS _ (m5 l hl _ (.inl rfl))), k.at he.pk (hS _ (m5 l hl _ (.inr (.inl rfl)))), k.own he.own (fun g hg => hS g (m5 l hl g (.inr (.inr hg)))), he.ap, he.len⟩⟩
/-- the file's blocks lie within the heap, from B on -/
theorem FOk.lt {w : World} {B : Nat} {f : FL} (h : FOk w B f) : ∀ b ∈ fbs f, b < w.heap.size := by
  intro b hb
  rcases List.mem_cons.1 hb with rfl | hb
  · exact lt_of_at h.file
  rcases List.mem_append.1 hb with hb | hb
  · exact (World.ownsRow.lt h.now b (mem_vbs.1 hb)).2
  rcases List.mem_append.1 hb with hb | hb
  · exact (World.ownsRow.lt h.last b (mem_vbs.1 hb)).2
  rcases List.mem_append.1 hb with hb | hb
  · exact (World.ownsRow.lt h.loose b (mem_vbs.1 hb)).2
  obtain ⟨l, hl, hb⟩ := List.mem_flatMap.1 hb
  have he := h.each l hl
  rcases List.mem_cons.1 hb with rfl | hb
  · exact lt_of_at he.pa
  rcases List.mem_cons.1 hb with rfl | hb
  · exact lt_of_at he.pk
  exact (World.ownsRow.lt he.own b (mem_vbs.1 hb)).2
/-- what is new of the file's blocks -/
def Fnx (w : World) (f f' : FL) : Prop := f'.b = f.b ∧ ∀ k ∈ fbs f', k ∈ fbs f ∨ w.heap.size ≤ k
theorem FOk.wrote {w w' : World} {B D : Nat} {dc : List Value} {f : FL} (h : FOk w B f) (hD : At w D 58 dc) (p : Nat) (ds : List UInt8) (hpl : p + ds.length ≤ 1099511627776) (hB : B ≤ w.heap.size) (vn' vo' vk : Value) (ba bk : Nat) (tn : Int)
    (q2 : At w' f.b 51 [vn', f.vl, vo']) (q3 : Ow w' B vn' (wr f.nb p ds)) (q4 : w'.ownsRow B 123 3 vo' (f.lo.length + 1) (lcs f.lo ++ lwc tn ds.length ba bk)) (q5 : At w' ba 3 [.int .i64 (p : Int)]) (q6 : At w' bk 27 [vk])
    (q7 : Ow w' w.heap.size vk ds) (q8 : w.heap.size ≤ ba) (q9 : w.heap.size ≤ bk) (q10 : Frs w f.vn vn') (q11 : ∀ g, vk.ownBlock = some g → vn'.ownBlock ≠ some g) (q12 : Fr (fun k => k = D ∨ k = f.b ∨ f.vn.ownBlock = some k ∨ f.vo.ownBlock = some k) w w') (q13 : Frs w f.vo vo') :
    FOk w' B { f with vn := vn', vo := vo', nb := wr f.nb p ds, lo := f.lo ++ [⟨p, ds, ba, bk, vk, tn⟩] } ∧ Fnx w f { f with vn := vn', vo := vo', nb := wr f.nb p ds, lo := f.lo ++ [⟨p, ds, ba, bk, vk, tn⟩] } := by
  have lvl := World.ownsRow.lt h.last
  refine ⟨⟨h.low, q2, q3, ?_, ?_, ?_, ?_⟩, rfl, ?_⟩
  · refine q12.own h.last (fun g hg hk => ?_)
    rcases hk with hk | hk | hk | hk
    · exact own_ne h.last hD (by decide) (hk ▸ hg)
    · exact own_ne h.last h.file (by decide) (hk ▸ hg)
    · exact h.apart g hk hg
    · exact own_apart h.last h.loose (by decide) hg hk
  · intro g hg e
    rcases q10 g hg with h1 | h1
    · exact h.apart g h1 e
    · have := (lvl g e).2; omega
  · show w'.ownsRow B 123 3 vo' (f.lo ++ [(⟨p, ds, ba, bk, vk, tn⟩ : LW)]).length (lcs (f.lo ++ [⟨p, ds, ba, bk, vk, tn⟩]))
    rw [lcs_snoc, List.length_append]
    exact q4
  · intro l hl
    rcases List.mem_append.1 hl with hl | hl
    · have he := h.each l hl
      refine ⟨q12.at he.pa (fun hk => ?_), q12.at he.pk (fun hk => ?_), q12.own he.own (fun g hg hk => ?_), fun g hg => ⟨fun e => ?_, (he.ap g hg).2⟩, he.len⟩
      · rcases hk with hk | hk | hk | hk
        · exact he.pa.ne hD (by decide) hk
        · exact he.pa.ne h.file (by decide) hk
        · exact own_ne h.now he.pa (by decide) hk
        · exact own_ne h.loose he.pa (by decide) hk
      · rcases hk with hk | hk | hk | hk
        · exact he.pk.ne hD (by decide) hk
        · exact he.pk.ne h.file (by decide) hk
        · exact own_ne h.now he.pk (by decide) hk
        · exact own_ne h.loose he.pk (by decide) hk
      · rcases hk with hk | hk | hk | hk
        · exact own_ne he.own hD (by decide) (hk ▸ hg)
        · exact own_ne he.own h.file (by decide) (hk ▸ hg)
        · exact (he.ap g hg).1 hk
        · exact own_apart he.own h.loose (by decide) hg hk
      · rcases q10 g e with h1 | h1
        · exact (he.ap g hg).1 h1
        · have := (World.ownsRow.lt he.own g hg).2; omega
    · obtain rfl := List.mem_singleton.1 hl
      exact ⟨q5, q6, ow_base q7 hB, fun g hg => ⟨q11 g hg, fun e => by have := (lvl g e).2; have := (World.ownsRow.lt q7 g hg).1; omega⟩, hpl⟩
  · intro k hk
    unfold fbs at hk ⊢
    simp only [List.mem_cons, List.mem_append, mem_vbs, List.flatMap_append, List.mem_flatMap, List.flatMap_cons, List.flatMap_nil, List.not_mem_nil, or_false] at hk ⊢
    rcases hk with hk | hk | hk | hk | hk | hk | hk | hk
    · exact .inl (.inl hk)
    · rcases q10 k hk with h1 | h1
      · exact .inl (.inr (.inl h1))
      · exact .inr h1
    · exact .inl (.inr (.inr (.inl hk)))
    · rcases q13 k hk with h1 | h1
      · exact .inl (.inr (.inr (.inr (.inl h1))))
      · exact .inr h1
    · exact .inl (.inr (.inr (.inr (.inr hk))))
    · exact .inr (hk ▸ q8)
    · exact .inr (hk ▸ q9)
    · exact .inr (World.ownsRow.lt q7 k hk).1
end Go.Proofs.YtaibjeehjhlicaaDoor
