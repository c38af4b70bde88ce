import Derived.Test.YtaobnnlcfefodaaGreatDoorLy
import Derived.Test.YtaobnnlcfefodaaGreatDoorNm
import Derived.Test.YtaobnnlcfefodaaGreatDoorBf
import Derived.Test.YtaobnnlcfefodaaGreatDoorBd
import Derived.Test.YtaobnnlcfefodaaGreatDoorNp
import Derived.Deep.MidRow
namespace Go.Proofs.YtaobnnlcfefodaaGreatDoor
open Go.RowKit Go.Shelf TextNum
theorem result_cell_tmp {P : Program} {fn : Func} {q q2 : Tmp} {T : TypeId} (h : fn.results = #[.cell q T, .tmp q2]) (tmps : Array Value) (w : World) (b : Nat) (cs : List Value) (v : Value) {d : TypeDesc}
    (hp : tmps.getD q undef = .pointer (some ⟨b, 0, none⟩)) (hv : tmps.getD q2 undef = v) (hc : w.rangeAt b 0 cs) (hu : P.underlying T = some d) (hd : d.isRow = true) (hi : (P.info? T).map (·.size) = some cs.length) : (results fn tmps).run P w = .ok (.tuple #[.agg cs.toArray, v]) w := by
  have hp' : tmps[q]?.getD undef = .pointer (some ⟨b, 0, none⟩) := by simpa using hp
  have hv' : tmps[q2]?.getD undef = v := by simpa using hv
  simp [results, h, hp', hv', asAddr, run_loadVar_mid w b 0 T cs _ hc hu hd hi]
theorem there_up {w w' : World} {b o n : Nat} (h : w.there b o n) (hb : b < w.heap.size) (k : Up w w') : w'.there b o n := by
  intro j hj
  have e := k.block b hb
  obtain ⟨h1, h2⟩ := h j hj
  constructor
  · rw [World.cell?_of_block e]; exact h1
  · rw [World.frozen?_of_block e]; exact h2
theorem there_new (w : World) (cs : List Value) (t : TypeId) : (w.alloc (.cells cs.toArray t)).there w.heap.size 0 cs.length := by
  intro j hj
  constructor
  · rw [World.cell?_alloc_at _ _ _ _ rfl]; simp; omega
  · exact World.frozen?_alloc_new w _ t _
theorem up_setCells {W : World} {b : Nat} (hb : W.heap.size ≤ b) : ∀ (vs : List Value) (o : Nat) {w' : World}, Up W w' → Up W (w'.setCells b o vs)
  | [], _, _, h => h
  | v :: r, o, _, h => up_setCells hb r (o + 1) (Below.setCell (p := ⟨b, o, none⟩) h hb v)
theorem OwnS.cell {w : World} {B : Nat} {v : Value} {xs : List (List UInt8)} (h : OwnS w B v xs) (hx : xs ≠ []) : ∃ g c, v = .slice (some ⟨g, 0, none⟩) xs.length c ∧ B ≤ g ∧ ∀ i (hi : i < xs.length), w.cell? ⟨g, i, none⟩ = some (.string ⟨xs[i].toArray⟩) := by
  rcases h.2 with ⟨rfl, e⟩ | ⟨g, cap, cur, rfl, hbg, hg, hnc, _⟩
  · exact absurd (List.eq_nil_of_length_eq_zero e) hx
  · refine ⟨g, cap, rfl, (World.ownsRow.lt h g rfl).1, fun i hi => ?_⟩
    have := World.ownsRow.cells h (g := g) rfl i (.string ⟨xs[i].toArray⟩) (by rw [List.getElem?_map, List.getElem?_eq_getElem hi]; rfl)
    rwa [add_plain, Nat.zero_add] at this
end Go.Proofs.YtaobnnlcfefodaaGreatDoor
