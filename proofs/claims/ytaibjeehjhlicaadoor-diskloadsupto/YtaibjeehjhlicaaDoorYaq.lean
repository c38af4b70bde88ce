import Derived.Test.YtaibjeehjhlicaaDoorYap
namespace Go.Proofs.YtaibjeehjhlicaaDoor
open Go.RowKit Go.Shelf TextNum ModNum
theorem find_yes {B D T : Nat} {s : DD} (nm : ByteArray) (f : FL) (w : World) (h : DOk w B D T s) (hfm : (nm.data.toList, f) ∈ s.nf) : Calls Tryd.prog 20 #[pv D, .string nm] w fun e w' => e = .returned (.tuple #[pv f.b, .int .i64 0]) ∧ Up w w' := by
  have hh : Maps.has s.dm (kS nm) = true := (h.isn.has _).2 (List.mem_map.2 ⟨_, hfm, rfl⟩)
  have := find_gen D s.M s.nM f.b nm s.dm _ _ _ _ _ _ _ _ _ _ _ w h.ml h.disk h.mnow (fun z _ => h.isn.val _ hfm z)
  have e : fnd s.dm nm f.b = (pv f.b, 0) := by
    unfold fnd
    rw [if_neg (by rw [h.nms _ hfm]; decide), if_pos hh]
  rw [e] at this
  exact this
theorem find_no {B D T : Nat} {s : DD} (nm : ByteArray) (w : World) (h : DOk w B D T s) (hn : isNm nm.data.toList = true) (hl : nm.data.toList ∉ s.nf.map (·.1)) : Calls Tryd.prog 20 #[pv D, .string nm] w fun e w' => e = .returned (.tuple #[.pointer none, .int .i64 121]) ∧ Up w w' := by
  have hh : Maps.has s.dm (kS nm) = false := by
    cases hh : Maps.has s.dm (kS nm) with
    | false => rfl
    | true => exact absurd ((h.isn.has _).1 hh) hl
  have := find_gen D s.M s.nM 0 nm s.dm _ _ _ _ _ _ _ _ _ _ _ w h.ml h.disk h.mnow (fun z e => by rw [hh] at e; cases e)
  have e : fnd s.dm nm 0 = (.pointer none, 121) := by
    unfold fnd
    rw [if_neg (by rw [hn]; decide), if_neg (by rw [hh]; decide)]
  rw [e] at this
  exact this
theorem err_aft {w w4 w9 : World} {B D T : Nat} {s : DD} (h3 : DOk w4 B D T s) (hd : s.dead = false) (u3 : Up w w4) (g4 : w4.grownBy w9 (some D)) (hd4 : At w9 D 58 [.int .i64 (s.room : Int), .int .i64 (usd s.nf : Int), .bool false, .map (some s.M), .map (some s.L), s.vC, s.vLo, .int .i64 (lsd (fls s) : Int), .int .i64 (s.trn : Int), .int .i64 ((s.acts + 1 : Nat) : Int), .int .i64 ((s.unt - 1 : Nat) : Int), .int .i64 s.flt]) (hT : T + 2 ≤ 100000) : Aft w w9 B D T s (acS s) := by
  obtain ⟨h4, f4⟩ := h3.acs hd g4 hd4 (by omega)
  exact ⟨h4.more (by omega) hT, fun k hk => .inl hk, ((Fr.refl (own D s) w).up u3).trans f4 (fun g hg => .inl (.inl hg))⟩
end Go.Proofs.YtaibjeehjhlicaaDoor
