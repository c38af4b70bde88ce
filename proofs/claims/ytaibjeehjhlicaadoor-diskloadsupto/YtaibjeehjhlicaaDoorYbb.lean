import Derived.Test.YtaibjeehjhlicaaDoorYba
namespace Go.Proofs.YtaibjeehjhlicaaDoor
open Go.RowKit Go.Shelf TextNum ModNum
/-- the names of a list -/
def nmOf (nf : List (List UInt8 × FL)) : NM := fun l => (nf.find? fun p => p.1 == l).map (·.2.b)
theorem nmOf_mem {nf : List (List UInt8 × FL)} (nd : (nf.map (·.1)).Nodup) {p : List UInt8 × FL} (hp : p ∈ nf) : nmOf nf p.1 = some p.2.b := by
  unfold nmOf
  obtain ⟨xs, ys, e⟩ := List.append_of_mem hp
  subst e
  rw [List.map_append, List.map_cons, List.nodup_append] at nd
  have h1 : xs.find? (fun q => q.1 == p.1) = none := List.find?_eq_none.2 (fun q hq e => nd.2.2 q.1 (List.mem_map_of_mem hq) p.1 List.mem_cons_self (beq_iff_eq.1 e))
  rw [List.find?_append, h1, List.find?_cons]
  simp
theorem nmOf_no {nf : List (List UInt8 × FL)} {l : List UInt8} (h : l ∉ nf.map (·.1)) : nmOf nf l = none := by
  unfold nmOf
  rw [List.find?_eq_none.2 (fun q hq e => h (by rw [← beq_iff_eq.1 e]; exact List.mem_map_of_mem hq))]
  rfl
theorem MN.mis {dm : DataW Unit} {nf : List (List UInt8 × FL)} (h : MN dm nf) (nd : (nf.map (·.1)).Nodup) : MIs dm (nmOf nf) := by
  intro l
  by_cases hl : l ∈ nf.map (·.1)
  · obtain ⟨p, hp, rfl⟩ := List.mem_map.1 hl
    rw [nmOf_mem nd hp]
    exact ⟨(h.has p.1).2 hl, fun b e z => by injection e with e; subst e; exact h.val p hp z⟩
  · rw [nmOf_no hl]
    refine ⟨?_, fun b e => by cases e⟩
    cases hh : Maps.has dm (.string l) with
    | false => rfl
    | true => exact absurd ((h.has l).1 hh) hl
/-- a disk on which nothing is loose -/
def ldS (room M L : Nat) (dm : DataW Unit) (nf : List (List UInt8 × FL)) : DD := ⟨room, M, L, nf.length, nf.length, nf.length, dm, dm, nmOf nf, .slice none 0 0, .slice none 0 0, [], nf, [], 0, 0, 0, 0, false⟩
theorem lsd_zero {fs : List FL} (h : ∀ f ∈ fs, f.lo = []) : lsd fs = 0 := by
  unfold lsd
  induction fs with
  | nil => rfl
  | cons f r ih => rw [List.map_cons, List.sum_cons, ih (fun g hg => h g (List.mem_cons_of_mem _ hg)), h f List.mem_cons_self]; rfl
/-- a disk that was laid -/
structure Laid (W w : World) (D room : Nat) (fs : List GF) (s : DD) : Prop where
  ok : DOk w W.heap.size D 0 s
  lo : ∀ k, own D s k → W.heap.size ≤ k
  up : Up W w
  ld : LD fs s.nf
  st : s.dead = false ∧ s.unt = 0 ∧ s.room = room ∧ s.chs = [] ∧ s.of = [] ∧ s.trn = 0 ∧ s.acts = 0 ∧ s.las = nmOf s.nf
  sy : ∀ p ∈ s.nf, p.2.lb = p.2.nb ∧ p.2.lo = []
theorem laid_gen (room : Nat) (a : Option Addr) (fs : List GF) (c : Nat) (w : World) (hF : FsL w a fs c) (hnm : ∀ g ∈ fs, isNm g.nm.data.toList = true) (hnd : (fs.map fun g => g.nm.data.toList).Nodup) (hsz : (fs.map fun g => g.ds.length).sum ≤ 1099511627776) (hlen : fs.length ≤ 1000000) (hr : room ≤ 1099511627776) (hG : ML w) (hV : 0 < w.heap.size) :
    Calls Tryd.prog 15 #[.int .i64 (room : Int), .slice a fs.length c] w fun e w' => ∃ D s, e = .returned (pv D) ∧ Laid w w' D room fs s := by
  refine (laid_raw room a fs c w hF hnm hnd hsz hlen).mono ?_
  rintro e w' ⟨D, M, L, dm, nf, rfl, w1, hJ, hL, mL, lL, ne, rfl⟩
  have g4 := grown_at w1 D 4 (.map (some L))
  have f4 : Fr (fun k => k = D) w1 (w1.setCell ⟨D, 4, none⟩ (.map (some L))) := (Fr.refl (fun k => k = D) w1).by g4 (fun k hk => .inl (Option.some.inj hk).symm)
  have tD := hJ.disk.tg
  have nD : ∀ k, tagOf w1 k ≠ some 58 → ¬ k = D := fun k hk e => hk (by rw [e]; exact tD)
  have hU : Up w (w1.setCell ⟨D, 4, none⟩ (.map (some L))) := hJ.up.by g4 (fun g hg => by have := Option.some.inj hg; have := hJ.low.1; omega)
  have hfl : fls (ldS room M L dm nf) = nf.map (·.2) := by show nf.map (·.2) ++ [] = _; simp
  have hz : lsd (fls (ldS room M L dm nf)) = 0 := by
    rw [hfl]
    refine lsd_zero (fun f hf => ?_)
    obtain ⟨p, hp, rfl⟩ := List.mem_map.1 hf
    exact (hJ.sz p hp).2.2.1
  have hln := hL.len
  have hu := hL.usd
  have fok4 : ∀ p ∈ nf, FOk (w1.setCell ⟨D, 4, none⟩ (.map (some L))) w.heap.size p.2 := fun p hp => (hJ.fok p hp).fr f4 (fun b hb e => by
    have e : b = D := e
    subst e
    exact (hJ.fok p hp).out hb tD (by decide))
  refine ⟨D, ldS room M L dm nf, rfl, ⟨⟨hG.up hU, ⟨hV, hJ.low.1, hJ.low.2, lL⟩, hU.size, ?_, f4.map hJ.map (nD M (by rw [map_tg hJ.map]; decide)), hJ.isn, hJ.nd, hJ.nms, f4.map mL (nD L (by rw [map_tg mL]; decide)), hJ.isn.mis hJ.nd, ne, World.ownsRow_nil _ _ _ _, World.ownsRow_nil _ _ _ _, (fun c hc => by cases hc), (fun c hc => by cases hc), ?_, ?_, ?_, ?_, ?_⟩, ?_, hU, hL, ⟨rfl, rfl, rfl, rfl, rfl, rfl, rfl, rfl⟩, fun p hp => ⟨(hJ.sz p hp).2.1, (hJ.sz p hp).2.2.1⟩⟩⟩
  · show At _ D 58 [.int .i64 (room : Int), .int .i64 (usd nf : Int), .bool false, .map (some M), .map (some L), .slice none 0 0, .slice none 0 0, .int .i64 ((lsd (fls (ldS room M L dm nf)) : Nat) : Int), .int .i64 0, .int .i64 0, .int .i64 0, .int .i64 0]
    rw [hz]
    exact hJ.disk.set 4 (.map (some L))
  · intro f hf
    rw [hfl] at hf
    obtain ⟨p, hp, rfl⟩ := List.mem_map.1 hf
    exact fok4 p hp
  · rw [hfl, List.map_map]
    exact hJ.fnd
  · intro f hf g hg
    rw [hfl] at hf hg
    obtain ⟨p, hp, rfl⟩ := List.mem_map.1 hf
    obtain ⟨q, hq, rfl⟩ := List.mem_map.1 hg
    exact hJ.apart p hp q hq
  · intro f hf
    rw [hfl] at hf
    obtain ⟨p, hp, rfl⟩ := List.mem_map.1 hf
    have := hJ.sz p hp
    rw [this.2.1, this.2.2.1]
    exact ⟨this.1, this.1, Nat.le_refl _⟩
  · show (0 : Nat) ≤ 0 ∧ (0 : Nat) ≤ 0 ∧ (0 : Nat) ≤ 0 ∧ (0 : Nat) ≤ 0 ∧ lsd (fls (ldS room M L dm nf)) ≤ 0 ∧ nf.length ≤ nf.length + 0 ∧ nf.length ≤ nf.length + 0 ∧ (0 : Nat) ≤ 100000 ∧ nf.length ≤ 1000000 ∧ room ≤ 1099511627776 ∧ usd nf ≤ 1099511627776
    rw [hz, hu, hln]
    omega
  · intro k hk
    rcases hk with hk | hk | hk | hk | hk | ⟨f, hf, hk⟩ | ⟨c, hc, _⟩
    · have := hJ.low.1; omega
    · have hk : k = M := hk
      have := hJ.low.2; omega
    · have hk : k = L := hk
      omega
    · cases hk
    · cases hk
    · rw [hfl] at hf
      obtain ⟨p, hp, rfl⟩ := List.mem_map.1 hf
      exact hJ.new p hp k hk
    · cases hc
end Go.Proofs.YtaibjeehjhlicaaDoor
