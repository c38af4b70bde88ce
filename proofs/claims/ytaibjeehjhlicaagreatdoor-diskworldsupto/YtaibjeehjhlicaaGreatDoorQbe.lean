import Derived.Test.YtaibjeehjhlicaaGreatDoorQac
import Derived.Deep.AppendLies
import Derived.Laws.EntriesVeiled
import Derived.Deep.RegionHeld3
import Derived.Deep.RegionLaw
namespace Go.Proofs.YtaibjeehjhlicaaGreatDoor
open Go.RowKit Go.Shelf TextNum ModNum
/-- a region whose orders all end alike -/
abbrev Once (A : Act) (W : World) : Exit → Act → World → Prop
  | .normal, a, w => a = A ∧ w = W
  | _, _, _ => False
theorem wp_once {P : Program} {c : Code} {Q : Exit → Act → World → Prop} {a : Act} {w : World} (A : Act) (W : World) (h : c.wp P (Once A W) a w) (k : Q Exit.normal A W) : c.wp P Q a w :=
  Code.wp_mono (fun e a' w' h => by
    cases e with
    | normal => obtain ⟨rfl, rfl⟩ := h; exact k
    | _ => exact h.elim) h
abbrev Som (R : Option Addr → Nat → World → Prop) (A : Option Addr → Nat → World → Act) (W : Option Addr → Nat → World → World) : Exit → Act → World → Prop
  | .normal, a, w => ∃ x c u, R x c u ∧ a = A x c u ∧ w = W x c u
  | _, _, _ => False
theorem wp_som {P : Program} {c : Code} {Q : Exit → Act → World → Prop} {a : Act} {w : World} (R : Option Addr → Nat → World → Prop) (A : Option Addr → Nat → World → Act) (W : Option Addr → Nat → World → World) (h : c.wp P (Som R A W) a w) (k : ∀ x c u, R x c u → Q Exit.normal (A x c u) (W x c u)) : c.wp P Q a w :=
  Code.wp_mono (fun e a' w' h => by
    cases e with
    | normal => obtain ⟨x, c, u, hR, rfl, rfl⟩ := h; exact k x c u hR
    | _ => exact h.elim) h
theorem At.ne {w : World} {a b : Nat} {t t' : TypeId} {cs cs' : List Value} (h : At w a t cs) (k : At w b t' cs') (ht : t ≠ t') : a ≠ b := fun e => by
  subst e
  unfold At at h k
  rw [h] at k
  injection k with k
  injection k with _ k
  exact ht k
theorem own_ne {w : World} {B n m b : Nat} {e t : TypeId} {v : Value} {xs cs : List Value} (h : w.ownsRow B e m v n xs) (k : At w b t cs) (ht : e ≠ t) : v.ownBlock ≠ some b := fun hb => by
  rcases h.2 with ⟨rfl, _⟩ | ⟨g, cap, cur, rfl, _, hg, _⟩
  · cases hb
  · obtain rfl : g = b := Option.some.inj hb
    unfold At at k
    rw [hg] at k
    injection k with k
    injection k with _ k
    exact ht k
theorem own_apart {w : World} {B B' n n' m m' g : Nat} {e e' : TypeId} {v v' : Value} {xs xs' : List Value} (h : w.ownsRow B e m v n xs) (k : w.ownsRow B' e' m' v' n' xs') (ht : e ≠ e') (hg : v.ownBlock = some g) : v'.ownBlock ≠ some g := fun hb => by
  rcases h.2 with ⟨rfl, _⟩ | ⟨g1, cap, cur, rfl, _, h1, _⟩
  · cases hg
  · rcases k.2 with ⟨rfl, _⟩ | ⟨g2, cap2, cur2, rfl, _, h2, _⟩
    · cases hb
    · obtain rfl : g1 = g := Option.some.inj hg
      obtain rfl : g2 = g1 := Option.some.inj hb
      rw [h1] at h2
      injection h2 with h2
      injection h2 with _ h2
      exact ht h2
/-- all but these blocks is as it was -/
structure Fr (S : Nat → Prop) (w w' : World) : Prop where
  os : w'.os = w.os
  tape : w'.tape = w.tape
  output : w'.output = w.output
  size : w.heap.size ≤ w'.heap.size
  block : ∀ k, k < w.heap.size → ¬ S k → w'.heap[k]? = w.heap[k]?
theorem Fr.refl (S : Nat → Prop) (w : World) : Fr S w w := ⟨rfl, rfl, rfl, Nat.le_refl _, fun _ _ _ => rfl⟩
theorem Fr.by {S : Nat → Prop} {a b c : World} {row : Option Nat} (h : Fr S a b) (k : b.grownBy c row) (hr : ∀ g, row = some g → S g ∨ a.heap.size ≤ g) : Fr S a c :=
  ⟨k.os.trans h.os, k.tape.trans h.tape, k.output.trans h.output, Nat.le_trans h.size k.size, fun j hj hS => (k.block j (Nat.lt_of_lt_of_le hj h.size) (fun e => by
    rcases hr j e.symm with h1 | h1
    · exact hS h1
    · omega)).trans (h.block j hj hS)⟩
theorem Fr.up {S : Nat → Prop} {a b c : World} (h : Fr S a b) (k : Up b c) : Fr S a c :=
  ⟨k.os.trans h.os, k.tape.trans h.tape, k.output.trans h.output, Nat.le_trans h.size k.size, fun j hj hS => (k.block j (Nat.lt_of_lt_of_le hj h.size)).trans (h.block j hj hS)⟩
theorem Fr.weak {S T : Nat → Prop} {a b : World} (h : Fr S a b) (k : ∀ g, S g → T g) : Fr T a b := ⟨h.os, h.tape, h.output, h.size, fun j hj hT => h.block j hj (fun hS => hT (k j hS))⟩
theorem Fr.trans {S : Nat → Prop} {a b c : World} {T : Nat → Prop} (h : Fr S a b) (k : Fr T b c) (hT : ∀ g, T g → S g ∨ a.heap.size ≤ g) : Fr S a c :=
  ⟨k.os.trans h.os, k.tape.trans h.tape, k.output.trans h.output, Nat.le_trans h.size k.size, fun j hj hS => (k.block j (Nat.lt_of_lt_of_le hj h.size) (fun e => by
    rcases hT j e with h1 | h1
    · exact hS h1
    · omega)).trans (h.block j hj hS)⟩
theorem Fr.at {S : Nat → Prop} {w w' : World} {b : Nat} {t : TypeId} {cs : List Value} (h : Fr S w w') (k : At w b t cs) (hS : ¬ S b) : At w' b t cs := by
  unfold At
  rw [h.block b (lt_of_at k) hS]
  exact k
theorem Fr.own {S : Nat → Prop} {w w' : World} {B n m : Nat} {e : TypeId} {v : Value} {xs : List Value} (h : Fr S w w') (k : w.ownsRow B e m v n xs) (hS : ∀ g, v.ownBlock = some g → ¬ S g) : w'.ownsRow B e m v n xs := by
  have hl := k.lt
  refine ⟨k.1, ?_⟩
  rcases k.2 with e | ⟨g, cap, cur, rfl, hb, hg, r⟩
  · exact .inl e
  · exact .inr ⟨g, cap, cur, rfl, hb, (h.block g (hl g rfl).2 (hS g rfl)).trans hg, r⟩
theorem ow_up {w w' : World} {B n m : Nat} {e : TypeId} {v : Value} {xs : List Value} (k : w.ownsRow B e m v n xs) (h : Up w w') : w'.ownsRow B e m v n xs := by
  have hl := k.lt
  refine ⟨k.1, ?_⟩
  rcases k.2 with e | ⟨g, cap, cur, rfl, hb, hg, r⟩
  · exact .inl e
  · exact .inr ⟨g, cap, cur, rfl, hb, (h.block g (hl g rfl).2).trans hg, r⟩
theorem ow_base {w : World} {B B' n m : Nat} {e : TypeId} {v : Value} {xs : List Value} (k : w.ownsRow B e m v n xs) (h : B' ≤ B) : w.ownsRow B' e m v n xs := by
  refine ⟨k.1, ?_⟩
  rcases k.2 with e | ⟨g, cap, cur, rfl, hb, r⟩
  · exact .inl e
  · exact .inr ⟨g, cap, cur, rfl, Nat.le_trans h hb, r⟩
theorem Tryz.infoLoose : (Tryz.prog.info? 144).map (fun i => (i.zero, i.size, i.bytes)) = some (some (.agg #[.int .i64 0, .int .i64 0, .nilFunc]), 3, 24) := by kernel_rfl
def lwc (tn : Int) (n ba bk : Nat) : List Value := [.int .i64 tn, .int .i64 (n : Int), .func (.func 97) #[] #[.pointer (some ⟨ba, 0, none⟩), .pointer (some ⟨bk, 0, none⟩)]]
theorem lwc_one (tn : Int) (n ba bk : Nat) : ∀ u ∈ lwc tn n ba bk, u.oneCell' = true := fun u hu => by
  simp only [lwc, List.mem_cons, List.not_mem_nil, or_false] at hu
  rcases hu with rfl | rfl | rfl <;> rfl
theorem news_new (w : World) (t : TypeId) (cs : List Value) : ∀ j u, cs[j]? = some u → ((w.alloc (.cells cs.toArray t)).drew).cell? ((⟨w.heap.size, 0, none⟩ : Addr).add j) = some u := fun j u hu => by
  rw [Addr.add_lit]
  exact (At.cell ((at_new w t cs).up (Up.refl _).drew) (i := 0 + j) (by rw [Nat.zero_add]; exact hu))
set_option maxRecDepth 100000 in
set_option maxHeartbeats 4000000 in
theorem write_walk (B D F p : Nat) (used wrs trn : Int) (y0 y2 y3 y4 y5 y6 y9 y10 y11 vn vl vo vd : Value) (nb ds : List UInt8) (ln : Nat) (lc : List Value) (w : World)
    (hD : At w D 85 [y0, .int .i64 used, y2, y3, y4, y5, y6, .int .i64 wrs, .int .i64 trn, y9, y10, y11]) (hF : At w F 95 [vn, vl, vo]) (hn : Ow w B vn nb)
    (ho : w.ownsRow B 144 3 vo ln lc) (hd : Sb w vd ds) (hp : p ≤ 1048576) (hnb : nb.length ≤ 17592186044416) (hds : ds.length ≤ 17592186044416) (hB : B ≤ w.heap.size)
    (u0 : 0 ≤ used) (u1 : used ≤ 1099511627776) (w0 : 0 ≤ wrs) (w1 : wrs ≤ 1099511627776) (t0 : 0 ≤ trn) (t1 : trn ≤ 1099511627776) (l1 : ln ≤ 1048576) :
    Calls Tryz.prog 58 #[.pointer (some ⟨D, 0, none⟩), .pointer (some ⟨F, 0, none⟩), .int .i64 (p : Int), vd] w fun e w' => e = .returned (.tuple #[]) ∧ ∃ vn' vo' vk, ∃ ba bk : Nat,
      At w' D 85 [y0, .int .i64 (used + gro nb.length p ds.length), y2, y3, y4, y5, y6, .int .i64 (wrs + 1), .int .i64 (trn + 1), y9, y10, y11] ∧ At w' F 95 [vn', vl, vo'] ∧ Ow w' B vn' (wr nb p ds) ∧
      w'.ownsRow B 144 3 vo' (ln + 1) (lc ++ lwc trn ds.length ba bk) ∧ At w' ba 3 [.int .i64 (p : Int)] ∧ At w' bk 41 [vk] ∧ Ow w' w.heap.size vk ds ∧ w.heap.size ≤ ba ∧ w.heap.size ≤ bk ∧
      Frs w vn vn' ∧ (∀ g, vk.ownBlock = some g → vn'.ownBlock ≠ some g) ∧ Fr (fun k => k = D ∨ k = F ∨ vn.ownBlock = some k ∨ vo.ownBlock = some k) w w' := by
  obtain ⟨ad, cd, rfl, hdl, hdm, hdn, hdc⟩ := hd
  have hd : Sb w (.slice ad ds.length cd) ds := ⟨ad, cd, rfl, hdl, hdm, hdn, hdc⟩
  have HAa := Hid.of (at_new w 3 [.int .i64 (p : Int)])
  have HUa := Hid.of ((Up.refl w).alloc (.cells [.int .i64 (p : Int)].toArray 3))
  have HCl := Hid.of (Clone_walk (.slice ad ds.length cd) ds _ (hd.up HUa.out) (by omega))
  have HNl := Hid.of (World.ownsRow.lt hn)
  have HD := Hid.of hD
  have HF := Hid.of hF
  have HN := Hid.of hn
  have HO := Hid.of ho
  have HSz := Hid.of (alloc_size w (.cells [.int .i64 (p : Int)].toArray 3))
  clear hD hF hn ho hd hdl hdm hdn hdc
  go_enter Tryz.func58, Tryz.ntmps58
  go_wp2_with fail
  generalize hW1 : w.alloc (.cells [.int .i64 (p : Int)].toArray 3) = W1 at *
  refine HCl.out.mono ?_
  rintro e w2 ⟨vk, rfl, hk2, u2⟩
  have HU2 := Hid.of (HUa.out.trans u2)
  have HAa2 := Hid.of (HAa.out.up u2)
  have HK2 := Hid.of hk2
  obtain ⟨ak, ck, hvk, _⟩ := hk2.sb
  subst hvk
  clear u2 hk2
  dsimp only
  go_wp2_with fail
  have HAk3 := Hid.of (at_new w2 41 [.slice ak ds.length ck])
  have HU23 := Hid.of ((Up.refl w2).alloc (.cells [.slice ak ds.length ck].toArray 41))
  have HSk := Hid.of HU2.out.size
  generalize hW3 : w2.alloc (.cells [.slice ak ds.length ck].toArray 41) = W3 at *
  have HU3 := Hid.of (HU2.out.trans HU23.out)
  have HD3 := Hid.of (HD.out.up HU3.out)
  have HF3 := Hid.of (HF.out.up HU3.out)
  have HN3 := Hid.of (ow_up HN.out HU3.out)
  have HO3 := Hid.of (ow_up HO.out HU3.out)
  have HAa3 := Hid.of (HAa2.out.up HU23.out)
  have HK3 := Hid.of (ow_up HK2.out HU23.out)
  have hbk : w.heap.size ≤ w2.heap.size := HSk.out
  generalize w2.heap.size = bk at *
  have c8 := HD3.out.cell (i := 8) rfl
  have ck0 := HAk3.out.cell (i := 0) rfl
  clear HU2 HAa2 HK2 HU23 HSk HCl HUa HAa HD HF HN HO hW1
  apply wp_once
  case h =>
    go_region_held3 (fun w' => w'.cell? ⟨D, 8, none⟩ = some (.int .i64 trn) ∧ w'.cell? ⟨bk, 0, none⟩ = some (.slice ak ds.length ck)) (go_keep) (fail)
    all_goals exact ⟨rfl, rfl⟩
  have HAw4 := Hid.of ((at_new W3 144 (lwc trn ds.length w.heap.size bk)).up (Up.refl _).drew)
  have HU34 := Hid.of (((Up.refl W3).alloc (.cells (lwc trn ds.length w.heap.size bk).toArray 144)).drew)
  have hW4 : (W3.alloc (.cells (lwc trn ds.length w.heap.size bk).toArray 144)).drew = (W3.alloc (.cells #[.int .i64 trn, .int .i64 (ds.length : Int), .func (.func 97) #[] #[.pointer (some ⟨w.heap.size, 0, none⟩), .pointer (some ⟨bk, 0, none⟩)]] 144)).drew := rfl
  rw [hW4] at HAw4 HU34
  clear hW4 c8 ck0
  generalize (W3.alloc (.cells #[.int .i64 trn, .int .i64 (ds.length : Int), .func (.func 97) #[] #[.pointer (some ⟨w.heap.size, 0, none⟩), .pointer (some ⟨bk, 0, none⟩)]] 144)).drew = W4 at *
  have HU4 := Hid.of (HU3.out.trans HU34.out)
  have HD4 := Hid.of (HD3.out.up HU34.out)
  have HF4 := Hid.of (HF3.out.up HU34.out)
  have HN4 := Hid.of (ow_up HN3.out HU34.out)
  have HO4 := Hid.of (ow_up HO3.out HU34.out)
  have HAa4 := Hid.of (HAa3.out.up HU34.out)
  have HAk4 := Hid.of (HAk3.out.up HU34.out)
  have HK4 := Hid.of (ow_up HK3.out HU34.out)
  have HSw := Hid.of (lt_of_at HAk3.out)
  generalize W3.heap.size = bw at *
  clear HU3 HD3 HF3 HN3 HO3 HAa3 HAk3 HK3 HU34 hW3
  obtain ⟨an, cn, hvn, _⟩ := Ow.sb (xs := nb) HN4.out
  subst hvn
  have c1 := HD4.out.cell (i := 1) rfl
  have f1 := HD4.out.thaw 1
  have ca := HAa4.out.cell (i := 0) rfl
  have HGr := Hid.of (growth_walk F nb.length ds.length p an ad cn cd vl vo W4.drew HF4.out (by omega) (by omega) (by omega) (by omega))
  have hg0 : 0 ≤ gro nb.length p ds.length := by
    unfold gro
    by_cases h : ds.length = 0 ∨ (p : Int) + ds.length ≤ nb.length
    · rw [if_pos h]; omega
    · rw [if_neg h]; omega
  have hg1 : gro nb.length p ds.length ≤ 35184372088832 := by
    unfold gro
    by_cases h : ds.length = 0 ∨ (p : Int) + ds.length ≤ nb.length
    · rw [if_pos h]; omega
    · rw [if_neg h]; omega
  generalize hgr : gro nb.length p ds.length = gr at *
  have HGR := Hid.of hgr
  clear hgr
  go_wp2
  apply wp_once
  case h =>
    go_region_with (go_at_call 96; refine HGr.out.mono ?_; rintro e w' ⟨rfl, rfl⟩)
    all_goals exact ⟨rfl, rfl⟩
  have hwu : IntKind.i64.wrap (used + gr) = used + gr := by rw [IntKind.wrap_i64]; omega
  rw [hwu]
  clear hwu c1 f1 ca HGr
  have HG5 := Hid.of (grown_up (grown_at W4 D 1 (.int .i64 (used + gr))) (Up.refl _).drew)
  have HD5 := Hid.of ((HD4.out.set 1 (.int .i64 (used + gr))).up (Up.refl _).drew)
  generalize (W4.setCell ⟨D, 1, none⟩ (.int .i64 (used + gr))).drew = W5 at *
  have HF5 := Hid.of (HF4.out.by HG5.out (fun e => HD4.out.ne HF4.out (by decide) (Option.some.inj e)))
  have HAa5 := Hid.of (HAa4.out.by HG5.out (fun e => HD4.out.ne HAa4.out (by decide) (Option.some.inj e)))
  have HAk5 := Hid.of (HAk4.out.by HG5.out (fun e => HD4.out.ne HAk4.out (by decide) (Option.some.inj e)))
  have HAw5 := Hid.of (HAw4.out.by HG5.out (fun e => HD4.out.ne HAw4.out (by decide) (Option.some.inj e)))
  have HN5 := Hid.of (World.ownsRow.kept HN4.out HG5.out (.inr (own_ne HN4.out HD4.out (by decide))))
  have HO5 := Hid.of (World.ownsRow.kept HO4.out HG5.out (.inr (own_ne HO4.out HD4.out (by decide))))
  have HK5 := Hid.of (World.ownsRow.kept HK4.out HG5.out (.inr (own_ne HK4.out HD4.out (by decide))))
  have HFr5 := Hid.of (((Fr.refl (fun k => k = D ∨ k = F ∨ (Value.slice an nb.length cn).ownBlock = some k ∨ vo.ownBlock = some k) w).up HU4.out).by HG5.out (fun g hg => .inl (.inl (Option.some.inj hg).symm)))
  clear HF4 HAa4 HAk4 HAw4 HN4 HO4 HK4 HD4 HG5 HU4
  have HX := Hid.of (show ∀ g, (Value.slice ak ds.length ck).ownBlock = some g → (Value.slice an nb.length cn).ownBlock ≠ some g from fun g hg e => by
    have h1 := (World.ownsRow.lt HK5.out g hg).1
    have h2 := (HNl.out g e).2
    have h3 := HSz.out
    omega)
  have HC := Hid.of (write1_walk B (.slice an nb.length cn) (.slice ak ds.length ck) nb ds p w.heap.size bk W5.drew HN5.out (Ow.sb (xs := ds) HK5.out) (by
    cases hq : (Value.slice ak ds.length ck).ownBlock with
    | none => exact .inl rfl
    | some g => exact .inr (fun e => HX.out g hq e.symm)) (HAa5.out.cell (i := 0) rfl) (HAk5.out.cell (i := 0) rfl) (by omega) (by omega) (by omega) (Nat.le_trans hB (HFr5.out.size)))
  have HNF := Hid.of (own_ne HN5.out HF5.out (by decide))
  have c0 := HF5.out.cell (i := 0) rfl
  have cw1 := HAw5.out.cell (i := 1) rfl
  have cw2 := HAw5.out.cell (i := 2) rfl
  go_wp2
  apply wp_som (fun x c u => Ow u B (.slice x (wr nb p ds).length c) (wr nb p ds) ∧ W5.grownBy u (Value.slice an nb.length cn).ownBlock ∧ Frs W5 (.slice an nb.length cn) (.slice x (wr nb p ds).length c))
  case h =>
    go_region_with (go_at_call 97; refine HC.out.mono ?_; rintro e w6 ⟨v6, rfl, o6, g6, f6⟩; obtain ⟨a6, c6, hv6, _⟩ := Ow.sb o6; subst hv6; have hF6 := HF5.out.by (grownBy_undrew g6) HNF.out; have cF6 := hF6.cell (i := 0) rfl; have tF6 := hF6.thaw 0; have HR6 := Hid.of (And.intro o6 (And.intro (grownBy_undrew g6) f6)); clear o6 g6 f6 hF6)
    all_goals exact ⟨_, _, _, HR6.out, rfl, rfl⟩
  intro a6 c6 w6 hR6
  have HG6 := Hid.of hR6.2.1
  have HD6 := Hid.of (HD5.out.by HG6.out (own_ne HN5.out HD5.out (by decide)))
  have HF6 := Hid.of (HF5.out.by HG6.out HNF.out)
  have HAa6 := Hid.of (HAa5.out.by HG6.out (own_ne HN5.out HAa5.out (by decide)))
  have HAk6 := Hid.of (HAk5.out.by HG6.out (own_ne HN5.out HAk5.out (by decide)))
  have HAw6 := Hid.of (HAw5.out.by HG6.out (own_ne HN5.out HAw5.out (by decide)))
  have HO6 := Hid.of (World.ownsRow.kept HO5.out HG6.out (by
    cases hq : vo.ownBlock with
    | none => exact .inl rfl
    | some g => exact .inr (fun e => own_apart HO5.out HN5.out (by decide) hq e.symm)))
  have HK6 := Hid.of (World.ownsRow.kept HK5.out HG6.out (by
    cases hq : (Value.slice ak ds.length ck).ownBlock with
    | none => exact .inl rfl
    | some g => exact .inr (fun e => HX.out g hq e.symm)))
  have HN6 := Hid.of hR6.1
  have HFs := Hid.of (show Frs w (.slice an nb.length cn) (.slice a6 (wr nb p ds).length c6) from fun g hg => by
    rcases hR6.2.2 g hg with h | h
    · exact .inl h
    · exact .inr (Nat.le_trans HFr5.out.size h))
  have HX6 := Hid.of (show ∀ g, (Value.slice ak ds.length ck).ownBlock = some g → (Value.slice a6 (wr nb p ds).length c6).ownBlock ≠ some g from fun g hg e => by
    rcases hR6.2.2 g e with h | h
    · exact HX.out g hg h
    · have := (World.ownsRow.lt HK5.out g hg).2
      omega)
  have HFr6 := Hid.of (HFr5.out.by HG6.out (fun g hg => .inl (.inr (.inr (.inl hg)))))
  clear hR6 HD5 HF5 HAa5 HAk5 HAw5 HO5 HK5 HN5 HFr5 HX HNF HC c0 cw1 cw2 HG6
  have HG7 := Hid.of (grown_at w6 F 0 (.slice a6 (wr nb p ds).length c6))
  have HF7 := Hid.of (HF6.out.set 0 (.slice a6 (wr nb p ds).length c6))
  generalize w6.setCell ⟨F, 0, none⟩ (.slice a6 (wr nb p ds).length c6) = W7 at *
  have HD7 := Hid.of (HD6.out.by HG7.out (fun e => HF6.out.ne HD6.out (by decide) (Option.some.inj e)))
  have HAa7 := Hid.of (HAa6.out.by HG7.out (fun e => HF6.out.ne HAa6.out (by decide) (Option.some.inj e)))
  have HAk7 := Hid.of (HAk6.out.by HG7.out (fun e => HF6.out.ne HAk6.out (by decide) (Option.some.inj e)))
  have HAw7 := Hid.of (HAw6.out.by HG7.out (fun e => HF6.out.ne HAw6.out (by decide) (Option.some.inj e)))
  have HN7 := Hid.of (World.ownsRow.kept HN6.out HG7.out (.inr (own_ne HN6.out HF6.out (by decide))))
  have HO7 := Hid.of (World.ownsRow.kept HO6.out HG7.out (.inr (own_ne HO6.out HF6.out (by decide))))
  have HK7 := Hid.of (World.ownsRow.kept HK6.out HG7.out (.inr (own_ne HK6.out HF6.out (by decide))))
  have HFr7 := Hid.of (HFr6.out.by HG7.out (fun g hg => .inl (.inr (.inl (Option.some.inj hg).symm))))
  clear HD6 HF6 HAa6 HAk6 HAw6 HO6 HK6 HN6 HFr6 HG7
  obtain ⟨i1, hi1, hy0, hy1, hy2⟩ := info_parts Tryz.infoLoose
  have c2 := HF7.out.cell (i := 2) rfl
  have cw0 := HAw7.out.cell (i := 0) rfl
  have cw1 := HAw7.out.cell (i := 1) rfl
  have cw2 := HAw7.out.cell (i := 2) rfl
  have HB7 := Hid.of (Nat.le_trans hB HFr7.out.size)
  have hFl : F < W7.heap.size := lt_of_at HF7.out
  have hFn : ¬ F = W7.heap.size := by omega
  have c2b := (HF7.out.up (((Up.refl W7).alloc (.cells (lwc trn ds.length w.heap.size bk).toArray 144)))).cell (i := 2) rfl
  unfold lwc at c2b
  go_wp2
  apply wp_som (fun x c u => u.ownsRow B 144 3 (.slice x (ln + 1) c) (ln + 1) (lc ++ lwc trn ds.length w.heap.size bk) ∧ W7.grownBy u vo.ownBlock)
  case h =>
    go_region_law (refine step_append_lies _ rfl (.tmp 47) (.tmp 49) 93 rfl B 144 i1 (.agg #[.int .i64 0, .int .i64 0, .nilFunc]) 3 24 Tryz.underlying93 hi1 hy0 hy1 hy2 rfl (by decide) vo ln lc (by simp [Act.eval]) (ow_up HO7.out (((Up.refl W7).alloc _).drew)) ⟨W7.heap.size, 0, none⟩ 1 1 (lwc trn ds.length w.heap.size bk) (by simp [Act.eval]) rfl (news_new W7 _ _) (lwc_one _ _ _ _) (by decide) (by simp only [maxLen]; omega) (by omega) (by have := HB7.out; simp; omega) _ rfl ?_; intro g8 c8 w8 o8 r8 hg8 hl8; have hF8 := (HF7.out.up (((Up.refl W7).alloc (.cells (lwc trn ds.length w.heap.size bk).toArray 144)).drew)).by r8 (own_ne HO7.out HF7.out (by decide)); have cF8 := hF8.cell (i := 2) rfl; have tF8 := hF8.thaw 2; have HR8 := Hid.of (And.intro o8 (up_grown (((Up.refl W7).alloc (.cells (lwc trn ds.length w.heap.size bk).toArray 144)).drew) r8)); clear o8 r8 hg8 hl8 hF8; generalize (some (⟨g8, 0, none⟩ : Addr)) = x8 at *)
    all_goals exact ⟨_, _, _, HR8.out, rfl, rfl⟩
  intro a8 c8 w8 hR8
  have HG8 := Hid.of hR8.2
  have HD8 := Hid.of (HD7.out.by HG8.out (own_ne HO7.out HD7.out (by decide)))
  have HF8 := Hid.of (HF7.out.by HG8.out (own_ne HO7.out HF7.out (by decide)))
  have HAa8 := Hid.of (HAa7.out.by HG8.out (own_ne HO7.out HAa7.out (by decide)))
  have HAk8 := Hid.of (HAk7.out.by HG8.out (own_ne HO7.out HAk7.out (by decide)))
  have HN8 := Hid.of (World.ownsRow.kept HN7.out HG8.out (by
    cases hq : (Value.slice a6 (wr nb p ds).length c6).ownBlock with
    | none => exact .inl rfl
    | some g => exact .inr (fun e => own_apart HN7.out HO7.out (by decide) hq e.symm)))
  have HK8 := Hid.of (World.ownsRow.kept HK7.out HG8.out (by
    cases hq : (Value.slice ak ds.length ck).ownBlock with
    | none => exact .inl rfl
    | some g => exact .inr (fun e => own_apart HK7.out HO7.out (by decide) hq e.symm)))
  have HO8 := Hid.of hR8.1
  have HFr8 := Hid.of (HFr7.out.by HG8.out (fun g hg => .inl (.inr (.inr (.inr hg)))))
  clear hR8 HD7 HF7 HAa7 HAk7 HAw7 HO7 HK7 HN7 HFr7 HG8 hFl hFn c2b c2 cw0 cw1 cw2
  have HG9 := Hid.of (grown_at w8 F 2 (.slice a8 (ln + 1) c8))
  have HF9 := Hid.of (HF8.out.set 2 (.slice a8 (ln + 1) c8))
  generalize w8.setCell ⟨F, 2, none⟩ (.slice a8 (ln + 1) c8) = W9 at *
  have HD9 := Hid.of (HD8.out.by HG9.out (fun e => HF8.out.ne HD8.out (by decide) (Option.some.inj e)))
  have HAa9 := Hid.of (HAa8.out.by HG9.out (fun e => HF8.out.ne HAa8.out (by decide) (Option.some.inj e)))
  have HAk9 := Hid.of (HAk8.out.by HG9.out (fun e => HF8.out.ne HAk8.out (by decide) (Option.some.inj e)))
  have HN9 := Hid.of (World.ownsRow.kept HN8.out HG9.out (.inr (own_ne HN8.out HF8.out (by decide))))
  have HO9 := Hid.of (World.ownsRow.kept HO8.out HG9.out (.inr (own_ne HO8.out HF8.out (by decide))))
  have HK9 := Hid.of (World.ownsRow.kept HK8.out HG9.out (.inr (own_ne HK8.out HF8.out (by decide))))
  have HFr9 := Hid.of (HFr8.out.by HG9.out (fun g hg => .inl (.inr (.inl (Option.some.inj hg).symm))))
  clear HD8 HF8 HAa8 HAk8 HO8 HK8 HN8 HFr8 HG9
  have d8 := HD9.out.cell (i := 8) rfl
  have d7 := HD9.out.cell (i := 7) rfl
  have e8 := HD9.out.thaw 8
  have e7 := HD9.out.thaw 7
  have hw8 : IntKind.i64.wrap (trn + 1) = trn + 1 := by rw [IntKind.wrap_i64]; omega
  have hw7 : IntKind.i64.wrap (wrs + 1) = wrs + 1 := by rw [IntKind.wrap_i64]; omega
  have HDx := Hid.of ((HD9.out.set 8 (.int .i64 (trn + 1))).set 7 (.int .i64 (wrs + 1)))
  have HGx := Hid.of (grown_trans (grown_at W9 D 8 (.int .i64 (trn + 1))) (grown_at _ D 7 (.int .i64 (wrs + 1))))
  go_wp2
  go_end0
  generalize (W9.setCell ⟨D, 8, none⟩ (.int .i64 (trn + 1))).setCell ⟨D, 7, none⟩ (.int .i64 (wrs + 1)) = WX at *
  rw [HGR.out]
  refine ⟨rfl, .slice a6 (wr nb p ds).length c6, .slice a8 (ln + 1) c8, .slice ak ds.length ck, w.heap.size, bk, HDx.out, HF9.out.by HGx.out (fun e => HD9.out.ne HF9.out (by decide) (Option.some.inj e)), World.ownsRow.kept HN9.out HGx.out (.inr (own_ne HN9.out HD9.out (by decide))),
    World.ownsRow.kept HO9.out HGx.out (.inr (own_ne HO9.out HD9.out (by decide))), HAa9.out.by HGx.out (fun e => HD9.out.ne HAa9.out (by decide) (Option.some.inj e)), HAk9.out.by HGx.out (fun e => HD9.out.ne HAk9.out (by decide) (Option.some.inj e)),
    ow_base (World.ownsRow.kept HK9.out HGx.out (.inr (own_ne HK9.out HD9.out (by decide)))) (by have := HSz.out; omega), Nat.le_refl _, hbk, HFs.out, HX6.out, HFr9.out.by HGx.out (fun g hg => .inl (.inl (Option.some.inj hg).symm))⟩
end Go.Proofs.YtaibjeehjhlicaaGreatDoor
