import Derived.Test.YteijccjdejjbjaaDoorDi
import Derived.Test.YteijccjdejjbjaaDoorRow
import Derived.Test.YteijccjdejjbjaaDoorTie
import Derived.Test.YteijccjdejjbjaaDoorCards
import Derived.ProofKit
import Derived.LaidMore
import Derived.OpenShut
import Derived.Stop.Joined
import Derived.SevenTiedAt
namespace Go.Proofs.YteijccjdejjbjaaDoor
open Go.ChangeShapes Go.WideShapes Go.ChangeAt Go.WideMaps Go.WideElems Go.RowKit Go.Shelf ScalarNum

theorem gTab : Tryd.prog.globalNamed "ledger/scalar.multiples" = some 0 := by kernel_rfl
theorem tTab : (Tryd.prog.globals[0]?).map (·.type) = some 72 := by kernel_rfl
theorem cellsN : Tryd.prog.cellsOf 62 = 4 := by kernel_rfl

theorem num_read {W : World} {sp : Nat → Bool} {m : Nat} {cs : List Value} {a0 a1 a2 a3 : Int} {pl : List MemPlace}
    (h : DataW.trod (fun _ => ()) Tryd.prog W 0 sp false m 62 cs = some (.agg [.lit (.int .u64 a0), .lit (.int .u64 a1), .lit (.int .u64 a2), .lit (.int .u64 a3)], pl)) : cs = [.int .u64 a0, .int .u64 a1, .int .u64 a2, .int .u64 a3] := by
  obtain ⟨xs, m1, rfl, hx1, hlen, hn, hel⟩ := DataW.trod_array Tryd.underlying62 h
  rw [cells64] at hel
  simp only [Prod.mk.injEq] at hx1
  have hD := hx1.1
  simp only [DataW.agg.injEq] at hD
  have hl : cs.length = 4 := hlen.trans (by kernel_rfl)
  match xs, hn, hD, hel with
  | [y0, y1, y2, y3], _, hD, hel =>
    simp only [List.map_cons, List.map_nil, List.cons.injEq, and_true] at hD
    obtain ⟨d0, d1, d2, d3⟩ := hD
    have key : ∀ (i : Nat) (y : DataW Unit × List MemPlace) (z : Int), i < 4 → DataW.trod (fun _ => ()) Tryd.prog W 0 sp false m1 60 ((cs.drop (i * 1)).take 1) = some y → .lit (.int .u64 z) = y.1 → cs[i]? = some (.int .u64 z) := by
      intro i y z hi h e
      rw [Nat.mul_one, List.drop_eq_getElem_cons (by omega), List.take_succ_cons, List.take_zero] at h
      obtain ⟨z0, e0, b0, _⟩ := DataW.trod_int Tryd.underlying60 h
      simp at e0
      rw [b0] at e
      simp at e
      subst e
      rw [List.getElem?_eq_getElem (by omega)]
      simp [e0]
    have r0 := key 0 y0 _ (by decide) (hel 0 (by decide)) d0
    have r1 := key 1 y1 _ (by decide) (hel 1 (by decide)) d1
    have r2 := key 2 y2 _ (by decide) (hel 2 (by decide)) d2
    have r3 := key 3 y3 _ (by decide) (hel 3 (by decide)) d3
    match cs, hl with
    | [c0, c1, c2, c3], _ =>
      simp at r0 r1 r2 r3
      subst r0 r1 r2 r3
      rfl

theorem tab_at {W : World} {cs0 : Array Value} (hc : ∀ i, W.cell? ⟨0, i, none⟩ = cs0[i]?) (q : Nat) {l : List Value} (h : (cs0.toList.drop (q * 4)).take 4 = l) : W.rangeAt 0 (q * 4) l := by
  intro j v hv
  rw [hc, ← Array.getElem?_toList]
  rw [← h, List.getElem?_take] at hv
  split at hv
  · rw [List.getElem?_drop] at hv; exact hv
  · cases hv

theorem row_0 : wl 4 (0 * L % M) = [.int .u64 0, .int .u64 0, .int .u64 0, .int .u64 0] := by kernel_rfl
theorem row_1 : wl 4 (1 * L % M) = [.int .u64 6346243789798364141, .int .u64 1503914060200516822, .int .u64 0, .int .u64 1152921504606846976] := by kernel_rfl
theorem row_2 : wl 4 (2 * L % M) = [.int .u64 12692487579596728282, .int .u64 3007828120401033644, .int .u64 0, .int .u64 2305843009213693952] := by kernel_rfl
theorem row_3 : wl 4 (3 * L % M) = [.int .u64 591987295685540807, .int .u64 4511742180601550467, .int .u64 0, .int .u64 3458764513820540928] := by kernel_rfl
theorem row_4 : wl 4 (4 * L % M) = [.int .u64 6938231085483904948, .int .u64 6015656240802067289, .int .u64 0, .int .u64 4611686018427387904] := by kernel_rfl
theorem row_5 : wl 4 (5 * L % M) = [.int .u64 13284474875282269089, .int .u64 7519570301002584111, .int .u64 0, .int .u64 5764607523034234880] := by kernel_rfl
theorem row_6 : wl 4 (6 * L % M) = [.int .u64 1183974591371081614, .int .u64 9023484361203100934, .int .u64 0, .int .u64 6917529027641081856] := by kernel_rfl
theorem row_7 : wl 4 (7 * L % M) = [.int .u64 7530218381169445755, .int .u64 10527398421403617756, .int .u64 0, .int .u64 8070450532247928832] := by kernel_rfl
theorem row_8 : wl 4 (8 * L % M) = [.int .u64 13876462170967809896, .int .u64 12031312481604134578, .int .u64 0, .int .u64 9223372036854775808] := by kernel_rfl
theorem row_9 : wl 4 (9 * L % M) = [.int .u64 1775961887056622421, .int .u64 13535226541804651401, .int .u64 0, .int .u64 10376293541461622784] := by kernel_rfl
theorem row_10 : wl 4 (10 * L % M) = [.int .u64 8122205676854986562, .int .u64 15039140602005168223, .int .u64 0, .int .u64 11529215046068469760] := by kernel_rfl
theorem row_11 : wl 4 (11 * L % M) = [.int .u64 14468449466653350703, .int .u64 16543054662205685045, .int .u64 0, .int .u64 12682136550675316736] := by kernel_rfl
theorem row_12 : wl 4 (12 * L % M) = [.int .u64 2367949182742163228, .int .u64 18046968722406201868, .int .u64 0, .int .u64 13835058055282163712] := by kernel_rfl
theorem row_13 : wl 4 (13 * L % M) = [.int .u64 8714192972540527369, .int .u64 1104138708897167074, .int .u64 1, .int .u64 14987979559889010688] := by kernel_rfl
theorem row_14 : wl 4 (14 * L % M) = [.int .u64 15060436762338891510, .int .u64 2608052769097683896, .int .u64 1, .int .u64 16140901064495857664] := by kernel_rfl
theorem row_15 : wl 4 (15 * L % M) = [.int .u64 2959936478427704035, .int .u64 4111966829298200719, .int .u64 1, .int .u64 17293822569102704640] := by kernel_rfl
theorem row_16 : wl 4 (16 * L % M) = [.int .u64 9306180268226068176, .int .u64 5615880889498717541, .int .u64 1, .int .u64 0] := by kernel_rfl

theorem tab_of_read {W : World} {cs0 : Array Value} {f0 : Nat} {p0 : List MemPlace} {sp : Nat → Bool} (hc : ∀ i, W.cell? ⟨0, i, none⟩ = cs0[i]?)
    (hd0 : DataW.trod (fun _ => ()) Tryd.prog W 0 sp false f0 72 cs0.toList = some (Rows.laid_ledger_scalar_multiples, p0)) : Tab W := by
  obtain ⟨xs, m1, rfl, hx1, hlen, hn, hel⟩ := DataW.trod_array Tryd.underlying72 hd0
  rw [cellsN] at hel
  simp only [Prod.mk.injEq] at hx1
  have hD := hx1.1
  unfold Rows.laid_ledger_scalar_multiples at hD
  simp only [DataW.agg.injEq] at hD
  match xs, hn, hD, hel with
  | [y0, y1, y2, y3, y4, y5, y6, y7, y8, y9, y10, y11, y12, y13, y14, y15, y16], _, hD, hel =>
    simp only [List.map_cons, List.map_nil, List.cons.injEq, and_true] at hD
    obtain ⟨d0, d1, d2, d3, d4, d5, d6, d7, d8, d9, d10, d11, d12, d13, d14, d15, d16⟩ := hD
    have r0 := tab_at hc 0 (num_read (pl := y0.2) ((hel 0 (by decide)).trans (by rw [d0]; rfl)))
    have r1 := tab_at hc 1 (num_read (pl := y1.2) ((hel 1 (by decide)).trans (by rw [d1]; rfl)))
    have r2 := tab_at hc 2 (num_read (pl := y2.2) ((hel 2 (by decide)).trans (by rw [d2]; rfl)))
    have r3 := tab_at hc 3 (num_read (pl := y3.2) ((hel 3 (by decide)).trans (by rw [d3]; rfl)))
    have r4 := tab_at hc 4 (num_read (pl := y4.2) ((hel 4 (by decide)).trans (by rw [d4]; rfl)))
    have r5 := tab_at hc 5 (num_read (pl := y5.2) ((hel 5 (by decide)).trans (by rw [d5]; rfl)))
    have r6 := tab_at hc 6 (num_read (pl := y6.2) ((hel 6 (by decide)).trans (by rw [d6]; rfl)))
    have r7 := tab_at hc 7 (num_read (pl := y7.2) ((hel 7 (by decide)).trans (by rw [d7]; rfl)))
    have r8 := tab_at hc 8 (num_read (pl := y8.2) ((hel 8 (by decide)).trans (by rw [d8]; rfl)))
    have r9 := tab_at hc 9 (num_read (pl := y9.2) ((hel 9 (by decide)).trans (by rw [d9]; rfl)))
    have r10 := tab_at hc 10 (num_read (pl := y10.2) ((hel 10 (by decide)).trans (by rw [d10]; rfl)))
    have r11 := tab_at hc 11 (num_read (pl := y11.2) ((hel 11 (by decide)).trans (by rw [d11]; rfl)))
    have r12 := tab_at hc 12 (num_read (pl := y12.2) ((hel 12 (by decide)).trans (by rw [d12]; rfl)))
    have r13 := tab_at hc 13 (num_read (pl := y13.2) ((hel 13 (by decide)).trans (by rw [d13]; rfl)))
    have r14 := tab_at hc 14 (num_read (pl := y14.2) ((hel 14 (by decide)).trans (by rw [d14]; rfl)))
    have r15 := tab_at hc 15 (num_read (pl := y15.2) ((hel 15 (by decide)).trans (by rw [d15]; rfl)))
    have r16 := tab_at hc 16 (num_read (pl := y16.2) ((hel 16 (by decide)).trans (by rw [d16]; rfl)))
    intro q hq
    have hcases : q = 0 ∨ q = 1 ∨ q = 2 ∨ q = 3 ∨ q = 4 ∨ q = 5 ∨ q = 6 ∨ q = 7 ∨ q = 8 ∨ q = 9 ∨ q = 10 ∨ q = 11 ∨ q = 12 ∨ q = 13 ∨ q = 14 ∨ q = 15 ∨ q = 16 := by omega
    rcases hcases with rfl | rfl | rfl | rfl | rfl | rfl | rfl | rfl | rfl | rfl | rfl | rfl | rfl | rfl | rfl | rfl | rfl
    · rw [row_0]; exact r0
    · rw [row_1]; exact r1
    · rw [row_2]; exact r2
    · rw [row_3]; exact r3
    · rw [row_4]; exact r4
    · rw [row_5]; exact r5
    · rw [row_6]; exact r6
    · rw [row_7]; exact r7
    · rw [row_8]; exact r8
    · rw [row_9]; exact r9
    · rw [row_10]; exact r10
    · rw [row_11]; exact r11
    · rw [row_12]; exact r12
    · rw [row_13]; exact r13
    · rw [row_14]; exact r14
    · rw [row_15]; exact r15
    · rw [row_16]; exact r16

theorem tab_of_laid {W : World} (h : laidMetH Tryd.prog Rows.scalarRingRow.laid W) : Tab W := by
  rw [MakeChecks.laidMetH_plain _ _ _ (by kernel_rfl)] at h
  obtain ⟨ps, ⟨g0, t0, cs0, f0, p0, q0, hg0, ht0, hv0, hd0, _, _⟩, _, _⟩ := h
  obtain rfl := Option.some.inj (gTab.symm.trans hg0)
  obtain rfl := Option.some.inj (tTab.symm.trans ht0)
  exact tab_of_read (World.var?_cell hg0 hv0) hd0
end Go.Proofs.YteijccjdejjbjaaDoor
