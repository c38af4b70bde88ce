import Derived.Test.YtabpgpbcnadgcaaGreatDoorLc
import Derived.Test.YtabpgpbcnadgcaaGreatDoorLd
import Derived.Deep.AppendLies
import Derived.Test.YtabpgpbcnadgcaaGreatDoorLa
import Derived.Test.YtabpgpbcnadgcaaGreatDoorLb
import Derived.Lib.ConvBytes
import Derived.Test.YtabpgpbcnadgcaaGreatDoorYv
namespace Go.Proofs.YtabpgpbcnadgcaaGreatDoor
open Go.RowKit Go.Shelf TextNum
def zf : List Value := [.string ⟨#[]⟩, .string ⟨#[]⟩]
theorem cell_lt {w : World} {b o : Nat} {v : Value} (h : w.cell? ⟨b, o, none⟩ = some v) : b < w.heap.size := by
  rcases Nat.lt_or_ge b w.heap.size with h' | h'
  · exact h'
  · simp [World.cell?, Array.getElem?_eq_none h'] at h
theorem okl_no {l : List UInt8} (h : (58 : UInt8) ∉ l) : okl l = false := by
  rcases cut_cases 58 l with ⟨_, hc⟩ | ⟨a, b, hn, rfl, hc⟩
  · unfold okl; rw [hc]; rfl
  · exact absurd (by simp) h
theorem okl_at {a : List UInt8} (b : List UInt8) (h : (58 : UInt8) ∉ a) : okl (a ++ 58 :: b) = (tok a && vlu b) ∧ fll (a ++ 58 :: b) = ⟨⟨a.toArray⟩, ⟨(trm b).toArray⟩⟩ := by
  rcases cut_cases 58 (a ++ 58 :: b) with ⟨hn, hc⟩ | ⟨a', b', hn, e, hc⟩
  · exact absurd (by simp) hn
  · have h1 := pcs_cut b h
    rw [e, pcs_cut b' hn] at h1
    injection h1 with h1 _
    subst h1
    have h2 := List.append_cancel_left e
    injection h2 with _ h2
    subst h2
    unfold okl fll c1 c2
    rw [hc]
    exact ⟨rfl, rfl⟩
theorem StO.ge {w : World} {N : Nat} {b off : Nat} {ss : List ByteArray} {n c : Nat} (h : w.ownsRow N 9 1 (.slice (some ⟨b, off, none⟩) n c) n (ss.map Value.string)) : N ≤ b := by
  rcases h.2 with ⟨e, _⟩ | ⟨g, cap, cur, e, hg, _⟩
  · cases e
  · injection e with e1 _ _
    injection e1 with e1
    injection e1 with e1 _ _
    rw [e1]
    exact hg
set_option maxRecDepth 100000 in
set_option maxHeartbeats 4000000 in
theorem RfieldLine_walk (s : ByteArray) (hs : s.size ≤ 1048576) (w : World) : Calls Tryz.prog 121 #[.string s] w fun e w' => (∃ n v, e = .returned (.tuple #[.agg #[.string n, .string v], .bool (okl s.data.toList)]) ∧ Hid (okl s.data.toList = true → (⟨n, v⟩ : FD) = fll s.data.toList)) ∧ Up w w' := by
  have HS := Hid.of (Go.Lib.size_eq s)
  have HA0 := Hid.of (at_new w 102 zf)
  have HU0 := Hid.of ((Up.refl w).alloc (.cells zf.toArray 102))
  have HSz := Hid.of (alloc_size w (.cells zf.toArray 102))
  have HPc := Hid.of (Rpieces_walk s 58 (by omega) (w.alloc (.cells zf.toArray 102)))
  rcases cut_cases 58 s.data.toList with ⟨hn, _⟩ | ⟨a, b, hn, hab, _⟩
  · have HE := Hid.of (okl_no hn)
    rw [pcs_no hn] at HPc
    go_enter Tryz.func121, Tryz.ntmps121
    go_wp2_with fail
    change Calls _ _ _ (w.alloc (.cells zf.toArray 102)) _
    generalize w.alloc (.cells zf.toArray 102) = w1 at *
    refine HPc.out.mono ?_
    rintro e w2 ⟨⟨a2, c2, rfl, hO⟩, h9⟩
    have HU2 := Hid.of (HU0.out.trans h9)
    have HA2 := Hid.of (HA0.out.up h9)
    clear h9 HPc hO
    dsimp only [List.length_cons, List.length_nil, Nat.zero_add]
    go_wp2_with (with_reducible show wpList _ _ _ ({ dst := _, op := Op.store 102 _ _, type := _, pos := _, after := _, guard := _ } :: _) _ _; refine Shut.out ?_)
    show wpList _ _ _ _ _ _
    refine wpList_store_at rfl 102 _ _ rfl (w.heap.size) HA2.out zf rfl rfl rfl (by kernel_rfl) (by kernel_rfl) ?_
    intro w8 hA8 hg8
    have HA8 := Hid.of hA8
    have HU8 := Hid.of (HU2.out.by hg8 (fun g hg => by have := Option.some.inj hg; omega))
    clear hA8 hg8
    simp only [Act.put]
    repeat go_step
    refine bodyPost_ret (result_cell_tmp Tryz.results121 _ _ (w.heap.size) zf _ rfl rfl HA8.out.range Tryz.underlying102 rfl (by kernel_rfl)) rfl ?_
    refine ⟨⟨⟨#[]⟩, ⟨#[]⟩, by rw [HE.out]; rfl, Hid.of (fun h => absurd h (by rw [HE.out]; simp))⟩, HU8.out⟩
  · have HE0 := Hid.of (okl_at b hn)
    rw [hab, pcs_cut b hn] at HPc
    rw [← hab] at HE0
    obtain ⟨L, hL⟩ : ∃ L, s.data.toList = L := ⟨_, rfl⟩
    rw [hL] at HE0 ⊢
    clear hL
    obtain ⟨n, hnn⟩ : ∃ n, (a :: pcs 58 b).length = n := ⟨_, rfl⟩
    have hn2 : 2 ≤ n := by
      rw [← hnn, List.length_cons]
      have := List.length_pos_iff.2 (pcs_ne 58 b)
      omega
    have HSb := Hid.of (show ∀ w a2 c2, StO w (Nat.succ 0) a2 (bts (a :: pcs 58 b)) c2 → True from fun _ _ _ _ => trivial)
    rw [hnn] at HPc
    have HNn := Hid.of (show (bts (a :: pcs 58 b)).length = n by rw [bts_len]; exact hnn)
    have HB0 := Hid.of (show (bts (a :: pcs 58 b)) = ⟨a.toArray⟩ :: bts (pcs 58 b) from rfl)
    clear hnn HSb
    go_enter Tryz.func121, Tryz.ntmps121
    go_wp2_with fail
    change Calls _ _ _ (w.alloc (.cells zf.toArray 102)) _
    generalize w.alloc (.cells zf.toArray 102) = w1 at *
    refine HPc.out.mono ?_
    rintro e w2 ⟨⟨a2, c2, rfl, hO⟩, h9⟩
    have HU2 := Hid.of (HU0.out.trans h9)
    have HA2 := Hid.of (HA0.out.up h9)
    obtain ⟨b0, off, rfl, k0⟩ := hO.out.stl.cells 0 (by rw [HNn.out]; omega)
    have hcap := hO.out.stl.cap
    rw [HNn.out] at hcap
    have hb0 : b0 ≠ w.heap.size := by
      have h1 := StO.ge hO.out
      rw [HSz.out] at h1
      omega
    have k0' : w2.cell? ⟨b0, off, none⟩ = some (.string ⟨a.toArray⟩) := by
      simp only [HB0.out] at k0
      exact k0
    have HK2 := Hid.of k0'
    clear h9 HPc hO k0 k0' HB0 HNn
    dsimp only
    obtain ⟨A, hA⟩ : ∃ A : ByteArray, (⟨a.toArray⟩ : ByteArray) = A := ⟨_, rfl⟩
    have HAl := Hid.of (show A.data.toList = a by rw [← hA])
    have HAz := Hid.of (show A.size = a.length by rw [Go.Lib.size_eq, HAl.out])
    have HLn := Hid.of (show s.data.toList.length = a.length + 1 + b.length by rw [hab, List.length_append, List.length_cons]; omega)
    have hAs : A.size + 1 ≤ s.size := by rw [HS.out, HLn.out, HAz.out]; omega
    have HVb := Hid.of (show (s.extract (A.size + 1) s.size).data.toList = b by
      rw [extr_drop, hab, HAz.out, List.drop_append]
      simp)
    rw [hA] at HK2 HE0
    have HTk := Hid.of (show ∀ w, Calls Tryz.prog 46 #[.string A] w fun e w' => e = .returned (.bool (tok a)) ∧ Up w w' from fun w => by
      have h := Rtoken_walk A (by omega) w
      rw [HAl.out] at h
      exact h)
    obtain ⟨V, hV⟩ : ∃ V : ByteArray, s.extract (A.size + 1) s.size = V := ⟨_, rfl⟩
    rw [hV] at HVb
    have hVz : V.size ≤ s.size := by rw [← hV, ByteArray.size_extract]; omega
    obtain ⟨B, hB⟩ : ∃ B : ByteArray, (⟨(trm b).toArray⟩ : ByteArray) = B := ⟨_, rfl⟩
    rw [hB] at HE0
    have HTr := Hid.of (show ∀ w, Calls Tryz.prog 91 #[.string V] w fun e w' => e = .returned (.string B) ∧ w' = w from fun w => by
      have h := Rtrim_walk V (by omega) w
      rw [HVb.out] at h
      rw [← hB]
      exact h)
    have HVl := Hid.of (show ∀ w, Calls Tryz.prog 95 #[.string V] w fun e w' => e = .returned (.bool (vlu b)) ∧ Up w w' from fun w => by
      have h := Rvalued_walk V (by omega) w
      rw [HVb.out] at h
      exact h)
    have hn2z : ¬ (n : Int) < 2 := by omega
    have hnp : 0 < n := by omega
    have hnpz : (0 : Int) < (n : Int) := by omega
    have c0 := HK2.out
    clear hA hB hab HAl HLn HVb
    clear HS
    go_wp2_with fail
    refine (HTk.out _).mono ?_
    rintro e w3 ⟨rfl, h9⟩
    have HU3 := Hid.of (HU2.out.trans h9)
    have HA3 := Hid.of (HA2.out.up h9)
    have HK3 := Hid.of (h9.cell HK2.out)
    clear h9 HTk c0
    dsimp only
    cases htk : tok a with
    | false =>
      have HE := Hid.of (show okl L = false by rw [HE0.out.1, htk]; rfl)
      go_wp2_with (with_reducible show wpList _ _ _ ({ dst := _, op := Op.store 102 _ _, type := _, pos := _, after := _, guard := _ } :: _) _ _; refine Shut.out ?_)
      show wpList _ _ _ _ _ _
      refine wpList_store_at rfl 102 _ _ rfl (w.heap.size) HA3.out zf rfl rfl rfl (by kernel_rfl) (by kernel_rfl) ?_
      intro w8 hA8 hg8
      have HA8 := Hid.of hA8
      have HU8 := Hid.of (HU3.out.by hg8 (fun g hg => by have := Option.some.inj hg; omega))
      clear hA8 hg8
      simp only [Act.put]
      repeat go_step
      refine bodyPost_ret (result_cell_tmp Tryz.results121 _ _ (w.heap.size) zf _ rfl rfl HA8.out.range Tryz.underlying102 rfl (by kernel_rfl)) rfl ?_
      refine ⟨⟨⟨#[]⟩, ⟨#[]⟩, by rw [HE.out]; rfl, Hid.of (fun h => absurd h (by rw [HE.out]; simp))⟩, HU8.out⟩
    | true =>
      have HRb := Hid.of (show okl L = vlu b by rw [HE0.out.1, htk]; rfl)
      have HRf := Hid.of (show (⟨A, B⟩ : FD) = fll L from HE0.out.2.symm)
      generalize vlu b = bv at *
      have c0 := HK3.out
      have hAz : (A.size : Int) + 1 ≤ (s.size : Int) := by omega
      go_wp2
      refine wp_region_held_drew (S := fun w5 => (∃ cs, cs.length = 2 ∧ At w5 w.heap.size 102 cs) ∧ w5.cell? ⟨b0, off, none⟩ = some (.string A) ∧ Up w w5) (by kernel_rfl) ⟨⟨zf, rfl, HA3.out.up (Up.refl _).drew⟩, (Up.refl _).drew.cell HK3.out, HU3.out.drew⟩ (fun hS => ?_)
      refine wpAnyH_take (i := 0) (oi := { dst := some 26, op := Go.Op.move (Go.Operand.tmp 4), type := 25, pos := "ref.go:195", after := #[], guard := none }) (v := .slice (some ⟨b0, off, none⟩) n c2) rfl (by kernel_rfl) (by kernel_rfl) (by kernel_rfl) (fun _ _ _ h => h) (Or.inl ⟨by kernel_rfl, ?_⟩) hS ?_
      · intro w5 hSw
        clear hSw hS
        go_simp
      simp only [Act.put, List.setIfInBounds_toArray, List.set_cons_zero, List.set_cons_succ]
      refine wpAnyH_take (i := 1) (oi := { dst := some 27, op := Go.Op.indexAddr 25 (Go.Operand.tmp 26) (Go.Operand.const (Go.Value.int Go.IntKind.i64 0)), type := 0, pos := "ref.go:195", after := #[{ on := 0, ground := Go.Ground.data }], guard := none }) (v := .pointer (some ⟨b0, off, none⟩)) rfl (by kernel_rfl) (by kernel_rfl) (by kernel_rfl) (fun _ _ _ h => h) (Or.inl ⟨by kernel_rfl, ?_⟩) hS ?_
      · intro w5 hSw
        clear hSw hS
        go_simp
      simp only [Act.put, List.setIfInBounds_toArray, List.set_cons_zero, List.set_cons_succ]
      refine wpAnyH_take (i := 2) (oi := { dst := some 28, op := Go.Op.load 9 (Go.Operand.tmp 27), type := 9, pos := "ref.go:195", after := #[{ on := 1, ground := Go.Ground.data }], guard := none }) (v := .string A) rfl (by kernel_rfl) (by kernel_rfl) (by kernel_rfl) (fun _ _ _ h => h) (Or.inl ⟨by kernel_rfl, ?_⟩) hS ?_
      · intro w5 hSw
        have h0 := hSw.2.1
        clear hSw hS
        go_simp
      simp only [Act.put, List.setIfInBounds_toArray, List.set_cons_zero, List.set_cons_succ]
      refine wpAnyH_take (i := 3) (oi := { dst := some 29, op := Go.Op.move (Go.Operand.tmp 5), type := 9, pos := "ref.go:195", after := #[], guard := none }) (v := .string V) rfl (by kernel_rfl) (by kernel_rfl) (by kernel_rfl) (fun _ _ _ h => h) (Or.inl ⟨by kernel_rfl, ?_⟩) hS ?_
      · intro w5 hSw
        clear hSw hS
        go_simp
      simp only [Act.put, List.setIfInBounds_toArray, List.set_cons_zero, List.set_cons_succ]
      refine wpAnyH_take (i := 6) (oi := { dst := some 32, op := Go.Op.move (Go.Operand.tmp 5), type := 9, pos := "ref.go:195", after := #[], guard := none }) (v := .string V) rfl (by kernel_rfl) (by kernel_rfl) (by kernel_rfl) (fun _ _ _ h => h) (Or.inl ⟨by kernel_rfl, ?_⟩) hS ?_
      · intro w5 hSw
        clear hSw hS
        go_simp
      simp only [Act.put, List.setIfInBounds_toArray, List.set_cons_zero, List.set_cons_succ]
      refine wpAnyH_ready (rs := [4]) (by kernel_rfl) (by simp) ?_
      refine AllReadyH.cons (o := { dst := some 30, op := Go.Op.call { callee := Go.Callee.value (Go.Operand.func 91), args := #[Go.Operand.tmp 29], argTypes := #[9] }, type := 9, pos := "ref.go:195", after := #[{ on := 3, ground := Go.Ground.data }], guard := none }) rfl (fun K hK => ?_) AllReadyH.nil
      rw [if_pos (by kernel_rfl)]
      go_simp
      refine (HTr.out w3.drew).mono ?_
      rintro e w6 ⟨rfl, h9⟩
      obtain rfl := h9.symm
      clear h9
      dsimp only
      refine hK.out _ _ hS (fun hS => ?_)
      clear hK K
      refine wpAnyH_take (i := 5) (oi := { dst := some 31, op := Go.Op.build 102 #[(0, Go.Operand.tmp 28), (1, Go.Operand.tmp 30)], type := 102, pos := "ref.go:195", after := #[{ on := 2, ground := Go.Ground.data }, { on := 4, ground := Go.Ground.data }], guard := none }) (v := .agg #[.string A, .string B]) rfl (by kernel_rfl) (by kernel_rfl) (by kernel_rfl) (fun _ _ _ h => h) (Or.inl ⟨by kernel_rfl, ?_⟩) hS ?_
      · intro w5 hSw
        clear hSw hS
        go_simp
      simp only [Act.put, List.setIfInBounds_toArray, List.set_cons_zero, List.set_cons_succ]
      refine wpAnyH_ready (rs := [7]) (by kernel_rfl) (by simp) ?_
      refine AllReadyH.cons (o := { dst := some 33, op := Go.Op.call { callee := Go.Callee.value (Go.Operand.func 95), args := #[Go.Operand.tmp 32], argTypes := #[9] }, type := 4, pos := "ref.go:195", after := #[{ on := 6, ground := Go.Ground.data }, { on := 4, ground := Go.Ground.chain }], guard := none }) rfl (fun K hK => ?_) AllReadyH.nil
      rw [if_pos (by kernel_rfl)]
      go_simp
      refine (HVl.out w3.drew).mono ?_
      rintro e w7 ⟨rfl, h9⟩
      have HU7 := Hid.of (HU3.out.drew.trans h9)
      have HA7 := Hid.of ((HA3.out.up (Up.refl _).drew).up h9)
      have HK7 := Hid.of (h9.cell ((Up.refl w3).drew.cell HK3.out))
      clear h9
      dsimp only
      refine hK.out _ _ ⟨⟨zf, rfl, HA7.out⟩, HK7.out, HU7.out⟩ (fun hS => ?_)
      clear hK K
      refine wpAnyH_ready (rs := [8]) (by kernel_rfl) (by simp) ?_
      refine AllReadyH.cons (o := { dst := none, op := Go.Op.store 102 (Go.Operand.tmp 2) (Go.Operand.tmp 31), type := 0, pos := "ref.go:195", after := #[{ on := 5, ground := Go.Ground.data }, { on := 7, ground := Go.Ground.chain }, { on := 0, ground := Go.Ground.phase }, { on := 1, ground := Go.Ground.phase }, { on := 2, ground := Go.Ground.phase }, { on := 3, ground := Go.Ground.phase }, { on := 4, ground := Go.Ground.phase }, { on := 5, ground := Go.Ground.phase }, { on := 6, ground := Go.Ground.textOnly Go.Departure.lateStores }, { on := 7, ground := Go.Ground.textOnly Go.Departure.lateStoresUnsure }], guard := none }) rfl (fun K hK => oper_of_list ?_) AllReadyH.nil
      refine wpList_store_at rfl 102 _ _ rfl (w.heap.size) HA7.out [.string A, .string B] rfl rfl rfl (by kernel_rfl) (by kernel_rfl) ?_
      intro w8 hA8 hg8
      have HA8 := Hid.of hA8
      have HU8 := Hid.of (HU7.out.by hg8 (fun g hg => by have := Option.some.inj hg; omega))
      have HK8 := Hid.of (show w8.cell? ⟨b0, off, none⟩ = some (.string A) from (hg8.cell_far _ (cell_lt HK7.out) (fun e => hb0 (Option.some.inj e))).trans HK7.out)
      clear hA8 hg8
      refine hK.out _ _ ⟨⟨_, rfl, HA8.out⟩, HK8.out, HU8.out⟩ (fun hS => ?_)
      clear hK K
      refine wpAnyH_take (i := 9) (oi := { dst := some 3, op := Go.Op.assign (Go.Operand.tmp 33), type := 4, pos := "ref.go:195", after := #[{ on := 7, ground := Go.Ground.data }, { on := 8, ground := Go.Ground.chain }, { on := 0, ground := Go.Ground.phase }, { on := 1, ground := Go.Ground.phase }, { on := 2, ground := Go.Ground.phase }, { on := 3, ground := Go.Ground.phase }, { on := 4, ground := Go.Ground.phase }, { on := 5, ground := Go.Ground.phase }, { on := 6, ground := Go.Ground.phase }, { on := 7, ground := Go.Ground.phase }, { on := 8, ground := Go.Ground.phase }], guard := none }) (v := .bool bv) rfl (by kernel_rfl) (by kernel_rfl) (by kernel_rfl) (fun _ _ _ h => h) (Or.inl ⟨by kernel_rfl, ?_⟩) hS ?_
      · intro w5 hSw
        clear hSw hS
        go_simp
      simp only [Act.put, List.setIfInBounds_toArray, List.set_cons_zero, List.set_cons_succ]
      clear hS
      refine wpAnyH_done (by kernel_rfl) ?_ _
      repeat go_step
      refine bodyPost_ret (result_cell_tmp Tryz.results121 _ _ (w.heap.size) [.string A, .string B] _ rfl rfl HA8.out.range Tryz.underlying102 rfl (by kernel_rfl)) rfl ?_
      refine ⟨⟨A, B, by rw [HRb.out]; rfl, Hid.of (fun _ => HRf.out)⟩, HU8.out⟩
end Go.Proofs.YtabpgpbcnadgcaaGreatDoor
namespace Go.Proofs.YtabpgpbcnadgcaaGreatDoor
open Go.RowKit Go.Shelf TextNum
def FsR (w w' : World) (e : Ending) : Er (List FD) → Prop
  | .error k => ∃ a2 n2 c2, e = .returned (.tuple #[.slice a2 n2 c2, .int .i64 (nums k)])
  | .ok fs => ∃ a2 c2, e = .returned (.tuple #[.slice a2 fs.length c2, .int .i64 0]) ∧ Hid (RfO w' w.heap.size a2 fs c2)
set_option maxRecDepth 100000 in
set_option maxHeartbeats 4000000 in
theorem Rfields_walk (a : Option Addr) (ls : List (List UInt8)) (c : Nat) (w : World) (h : StL w a (bts ls) c) (hl : ls.length ≤ 1048576) (hs : ∀ x ∈ ls, x.length ≤ 1048576) :
    Calls Tryz.prog 76 #[.slice a ls.length c] w fun e w' => FsR w w' e (rfd ls) ∧ Up w w' := by
  have HF := Hid.of h
  have hcap := h.cap
  rw [bts_len] at hcap
  have HM := Hid.of hs
  clear h hs
  obtain ⟨rv, hrv⟩ : ∃ rv, rfd ls = rv := ⟨_, rfl⟩
  have HR := Hid.of hrv
  rw [hrv]
  clear hrv
  by_cases h64 : 64 < ls.length
  · have h64z : (64 : Int) < (ls.length : Int) := by omega
    have HE := Hid.of (show rv = .error 1 by rw [← HR.out]; unfold rfd; rw [if_pos h64])
    go_enter Tryz.func76, Tryz.ntmps76
    go_wp2
    go_ret2
    rw [HE.out]
    exact ⟨⟨none, 0, 0, rfl⟩, Up.refl _⟩
  · have h64z : ¬ (64 : Int) < (ls.length : Int) := by omega
    have HR2 := Hid.of (show rv = if ls.all okl = true then .ok (ls.map fll) else .error 5 by rw [← HR.out]; unfold rfd; rw [if_neg h64])
    go_enter Tryz.func76, Tryz.ntmps76
    go_wp2
    go_loopw [4, 5] (fun v4 v5 wr => ∃ i : Nat, v5 = .int .i64 (i : Int) ∧ i ≤ ls.length ∧ ∃ a7 c7, v4 = .slice a7 i c7 ∧ Hid (RfO wr w.heap.size a7 ((ls.take i).map fll) c7 ∧ Up w wr ∧ (ls.take i).all okl = true)) (fun _ v5 _ => ls.length - (intOf v5).toNat)
    case atStart => exact ⟨0, rfl, Nat.zero_le _, none, 0, rfl, Hid.of ⟨World.ownsRow_nil _ _ _ _, Up.refl _, rfl⟩⟩
    case round =>
      obtain ⟨i, rfl, hi, a7, c7, rfl, hU⟩ := hrel
      have HQ := Hid.of hU.out
      clear hU
      by_cases hil : i < ls.length
      · have hilz : (i : Int) < (ls.length : Int) := by omega
        obtain ⟨b, off, rfl, k1⟩ := HF.out.cells i (by rw [bts_len]; exact hil)
        have k2 := HQ.out.2.1.cell k1
        have HT := Hid.of (List.take_succ_eq_append_getElem hil)
        have hxz := HM.out _ (List.getElem_mem hil)
        have HFl := Hid.of (show okl ls[i] = false → rv = .error 5 from fun hb => by
          rw [HR2.out]
          have : ls.all okl = false := List.all_eq_false.2 ⟨_, List.getElem_mem hil, by rw [hb]; simp⟩
          rw [this]
          rfl)
        have e1 : (bts ls)[i]'(by rw [bts_len]; exact hil) = ⟨ls[i].toArray⟩ := by simp [bts]
        rw [e1] at k2
        clear k1 e1
        generalize ls[i] = x at *
        have HLn := Hid.of (show ((ls.take i).map fll).length = i by rw [List.length_map, List.length_take]; omega)
        have HC := Hid.of (RfieldLine_walk ⟨x.toArray⟩ (by show x.toArray.size ≤ _; simpa using hxz) wr)
        rw [show (⟨x.toArray⟩ : ByteArray).data.toList = x from rfl] at HC
        generalize hX : (⟨x.toArray⟩ : ByteArray) = X at *
        clear hX hxz
        go_wp2_with fail
        refine HC.out.mono ?_
        rintro e w4 ⟨⟨fn, fv, rfl, hfv⟩, h9⟩
        have HFv := Hid.of hfv.out
        have HU4 := Hid.of (HQ.out.2.1.trans h9)
        have HO4 := Hid.of (ow_up HQ.out.1 h9)
        have HAl4 := Hid.of HQ.out.2.2
        clear h9 hfv HC HQ k2
        dsimp only
        have HA5 := Hid.of (at_new w4 102 zf)
        have HU5 := Hid.of ((Up.refl w4).alloc (.cells zf.toArray 102))
        go_wp2_with (with_reducible show wpList _ _ _ ({ dst := _, op := Op.store 102 _ _, type := _, pos := _, after := _, guard := _ } :: _) _ _; refine Shut.out ?_)
        show wpList _ _ _ _ _ _
        refine wpList_store_at rfl 102 _ _ rfl (w4.heap.size) HA5.out [.string fn, .string fv] rfl rfl rfl (by kernel_rfl) (by kernel_rfl) ?_
        intro w8 hA8 hg8
        have HA8 := Hid.of hA8
        have HU8 := Hid.of (HU5.out.by hg8 (fun g hg => by have := Option.some.inj hg; omega))
        clear hA8 hg8 HA5 HU5
        simp only [Act.put]
        cases hok : okl x with
        | false =>
          have HE := Hid.of (HFl.out hok)
          go_wp2
          go_ret2
          rw [HE.out]
          exact ⟨⟨a7, i, c7, rfl⟩, HU4.out.trans HU8.out⟩
        | true =>
          have HFf := Hid.of (HFv.out hok)
          have HAl8 := Hid.of (show (ls.take (i + 1)).all okl = true by rw [HT.out, List.all_append, HAl4.out]; simp [hok])
          clear hok HFl
          go_wp2_with (with_reducible show wpList _ _ _ ({ dst := _, op := Op.load 102 _, type := _, pos := _, after := _, guard := _ } :: _) _ _; refine Shut.out ?_)
          show wpList _ _ _ _ _ _
          refine wpList_load_mid rfl _ _ rfl w4.heap.size 0 rfl [.string fn, .string fv] _ HA8.out.range Tryz.underlying102 rfl (by kernel_rfl) ?_
          simp only [Act.put, List.setIfInBounds_toArray, List.set_cons_zero, List.set_cons_succ]
          go_wp2_with (with_reducible show wpList _ _ _ ({ dst := _, op := Op.call { callee := Callee.builtin Builtin.append, args := _, argTypes := _ }, type := _, pos := _, after := _, guard := _ } :: _) _ _; refine Shut.out ?_)
          show wpList _ _ _ _ _ _
          refine wpList_appRf (w := w8) (N := w.heap.size) rfl _ _ rfl a7 c7 _ (⟨fn, fv⟩ : FD) HLn.out rfl rfl (ow_up HO4.out HU8.out) (HU4.out.trans HU8.out).size (by omega) ?_
          intro ax2 cx2 w7 o7 u7 g7
          have HO7 := Hid.of (show RfO w7 w.heap.size ax2 ((ls.take (i + 1)).map fll) cx2 by rw [HT.out, List.map_append, List.map_singleton, ← HFf.out]; exact o7)
          have HU7 := Hid.of (u7 w (HU4.out.trans HU8.out) (Nat.le_refl _))
          clear o7 u7 g7
          simp only [Act.put, List.setIfInBounds_toArray, List.set_cons_zero, List.set_cons_succ]
          go_wp2
          go_roundw
          all_goals first
            | exact ⟨i + 1, by go_num, by omega, ax2, cx2, rfl, Hid.of ⟨HO7.out, HU7.out, HAl8.out⟩⟩
            | (simp [intOf]; omega)
      · have hilz : ¬ (i : Int) < (ls.length : Int) := by omega
        have HE := Hid.of (show rv = .ok (ls.map fll) by
          have h1 := HQ.out.2.2
          rw [List.take_of_length_le (by omega)] at h1
          rw [HR2.out, if_pos h1])
        have HO8 := Hid.of (show RfO wr w.heap.size a7 (ls.map fll) c7 by
          have h1 := HQ.out.1
          rw [List.take_of_length_le (by omega)] at h1
          exact h1)
        have HL8 := Hid.of (show (ls.map fll).length = i by rw [List.length_map]; omega)
        go_wp2
        go_ret2
        rw [HE.out]
        exact ⟨⟨a7, c7, by rw [HL8.out]; rfl, HO8⟩, HQ.out.2.1⟩
end Go.Proofs.YtabpgpbcnadgcaaGreatDoor
namespace Go.Proofs.YtabpgpbcnadgcaaGreatDoor
open Go.RowKit Go.Shelf TextNum
/-- hex digits -/
def hxs (n : Nat) : List UInt8 → Option Nat
  | [] => some n
  | x :: r => match hxv x with
    | none => none
    | some v => hxs (16 * n + v.toNat) r
theorem hxs_snoc (n : Nat) : ∀ (l : List UInt8) (x : UInt8), hxs n (l ++ [x]) = match hxs n l with
    | none => none
    | some m => match hxv x with
      | none => none
      | some v => some (16 * m + v.toNat)
  | [], x => by
    simp only [List.nil_append, hxs]
  | y :: l, x => by
    rw [List.cons_append]
    simp only [hxs]
    cases hxv y with
    | none => rfl
    | some v => exact hxs_snoc _ l x
theorem hxv_ne59 {x v : UInt8} (h : hxv x = some v) : x ≠ 59 := by
  rintro rfl
  revert h
  decide +revert
theorem hxv_vlc {x : UInt8} (h : (hxv x).isSome = true) : vlc x = true := by
  have key : ∀ n : Nat, n < 256 → (hxv (UInt8.ofNat n)).isSome = true → vlc (UInt8.ofNat n) = true := by decide +kernel
  have h1 := key x.toNat x.toNat_lt
  rw [UInt8.ofNat_toNat] at h1
  exact h1 h
theorem csl_hxs : ∀ (z : List UInt8) (d n : Nat) (t : List UInt8), (59 : UInt8) ∉ z → (t = [] ∨ ∃ r, t = 59 :: r) → d ≤ 8 → csl d n (z ++ t) = if 8 < d + z.length then .error 8 else match hxs n z with | none => .error 8 | some m => .ok (d + z.length, m)
  | [], d, n, t, _, ht, hd => by
    rw [if_neg (by simp; omega)]
    rcases ht with rfl | ⟨r, rfl⟩
    · rfl
    · simp [csl, hxs]
  | x :: z, d, n, t, hz, ht, hd => by
    have hx : x ≠ 59 := fun e => hz (by simp [e])
    have hz2 : (59 : UInt8) ∉ z := fun e => hz (by simp [e])
    rw [List.cons_append]
    simp only [csl, if_neg hx, hxs, List.length_cons]
    cases hv : hxv x with
    | none =>
      dsimp only
      split <;> rfl
    | some v =>
      dsimp only
      by_cases h8 : d = 8
      · rw [if_pos h8, if_pos (by omega)]
      · rw [if_neg h8, csl_hxs z (d + 1) _ t hz2 ht (by omega), Nat.mul_comm n 16, show d + 1 + z.length = d + (z.length + 1) by omega]
theorem hxs_vlu : ∀ (z : List UInt8) (n m : Nat), hxs n z = some m → vlu z = true
  | [], _, _, _ => rfl
  | x :: z, n, m, h => by
    simp only [hxs] at h
    cases hv : hxv x with
    | none => rw [hv] at h; cases h
    | some v =>
      rw [hv] at h
      unfold vlu
      rw [List.all_cons, hxv_vlc (by rw [hv]; rfl)]
      exact hxs_vlu z _ m h
/-- the size that a chunk's line tells -/
def chl (l : List UInt8) : Option Nat := if (pcs 59 l).headD [] = [] ∨ 8 < ((pcs 59 l).headD []).length ∨ vlu l = false then none else hxs 0 ((pcs 59 l).headD [])
theorem cSz_chl (l : List UInt8) : cSz l = match chl l with | none => .error 8 | some n => .ok n := by
  obtain ⟨z, t, hz, ht, rfl, hp⟩ : ∃ z t, (59 : UInt8) ∉ z ∧ (t = [] ∨ ∃ r, t = 59 :: r) ∧ l = z ++ t ∧ (pcs 59 l).headD [] = z := by
    rcases cut_cases 59 l with ⟨hn, _⟩ | ⟨a, b, hn, rfl, _⟩
    · exact ⟨l, [], hn, .inl rfl, by simp, by rw [pcs_no hn]; rfl⟩
    · exact ⟨a, 59 :: b, hn, .inr ⟨b, rfl⟩, rfl, by rw [pcs_cut b hn]; rfl⟩
  unfold cSz chl
  rw [hp, csl_hxs z 0 0 t hz ht (by omega)]
  rw [Nat.zero_add]
  by_cases h8 : 8 < z.length
  · rw [if_pos h8, if_pos (.inr (.inl h8))]
  · rw [if_neg h8]
    cases hh : hxs 0 z with
    | none =>
      dsimp only
      by_cases hc : z = [] ∨ 8 < z.length ∨ vlu (z ++ t) = false
      · rw [if_pos hc]
      · rw [if_neg hc]
    | some m =>
      have hv := hxs_vlu z 0 m hh
      have e : vlu (z ++ t) = vlu t := by unfold vlu at hv ⊢; rw [List.all_append, hv, Bool.true_and]
      dsimp only
      rw [List.drop_left, e]
      by_cases hz0 : z = []
      · subst hz0
        rw [if_pos (.inl rfl), if_pos (.inl rfl)]
      · have hz1 : z.length ≠ 0 := fun h => hz0 (List.length_eq_zero_iff.1 h)
        by_cases ht2 : vlu t = false
        · rw [if_pos (.inr ht2), if_pos (.inr (.inr ht2))]
        · rw [if_neg (by intro h; rcases h with h | h; exact hz1 h; exact ht2 h), if_neg (by intro h; rcases h with h | h | h; exact hz0 h; exact h8 h; exact ht2 h)]
/-- a line's end: how many bytes it takes -/
def eat (r : List UInt8) : Er Nat := match r with
  | [] => .error 2
  | x :: t => if x = 10 then .ok 1 else if x = 13 then (match t with | [] => .error 2 | y :: _ => if y = 10 then .ok 2 else .error 8) else .error 8
theorem cCk_eat (z : Nat) (l : List UInt8) : cCk z l = if l.length < z then .error 2 else match eat (l.drop z) with
    | .error k => .error k
    | .ok k => .ok (l.take z, l.drop (z + k)) := by
  unfold cCk
  by_cases h : l.length < z
  · rw [if_pos h, if_pos h]
  · rw [if_neg h, if_neg h]
    have hd : ∀ k, l.drop (z + k) = (l.drop z).drop k := fun k => by rw [List.drop_drop]
    simp only [hd]
    cases hr : l.drop z with
    | nil => rfl
    | cons x t =>
      by_cases h10 : x = 10
      · subst h10
        rfl
      · by_cases h13 : x = 13
        · subst h13
          cases t with
          | nil => rfl
          | cons y t =>
            by_cases hy : y = 10
            · subst hy; rfl
            · have e1 : tpr (13 :: y :: t) = y :: t := rfl
              have e2 : eat (13 :: y :: t) = if y = 10 then .ok 2 else .error 8 := rfl
              rw [e1, e2, if_neg hy]
              dsimp only
              rw [if_neg hy]
        · have e1 : tpr (x :: t) = x :: t := by unfold tpr; rw [if_neg (by simpa using h13)]
          have e2 : eat (x :: t) = .error 8 := by unfold eat; dsimp only; rw [if_neg h10, if_neg h13]
          rw [e1, e2]
          dsimp only
          rw [if_neg h10]
/-- one chunk by the definition -/
theorem unc_step (f : Nat) (b l : List UInt8) : unc (f + 1) b l = match fnl l with
    | none => if l.length < 258 then .error 2 else .error 20
    | some i => if 256 < (tcr (l.take i)).length then .error 20 else match chl (tcr (l.take i)) with
      | none => .error 8
      | some z => if 1048576 < b.length + z then .error 1 else if (l.drop (i + 1)).length < z then .error 2 else match eat (l.drop (i + 1 + z)) with
        | .error k => .error k
        | .ok k => if z = 0 then .ok (b ++ (l.drop (i + 1)).take z, l.drop (i + 1 + z + k)) else unc f (b ++ (l.drop (i + 1)).take z) (l.drop (i + 1 + z + k)) := by
  rw [unc, cutL_ref]
  cases hf : fnl l with
  | none =>
    dsimp only
    by_cases h : l.length < 258
    · rw [if_pos h, if_pos h]; rfl
    · rw [if_neg h, if_neg h]; rfl
  | some i =>
    dsimp only
    by_cases h : 256 < (tcr (l.take i)).length
    · rw [if_pos h, if_pos h]; rfl
    · rw [if_neg h, if_neg h]
      dsimp only
      rw [cSz_chl]
      cases chl (tcr (l.take i)) with
      | none => rfl
      | some z =>
        dsimp only
        rw [Nat.add_comm z b.length]
        by_cases hm : 1048576 < b.length + z
        · rw [if_pos hm, if_pos hm]
        · rw [if_neg hm, if_neg hm, cCk_eat]
          by_cases hl : (l.drop (i + 1)).length < z
          · rw [if_pos hl, if_pos hl]
          · rw [if_neg hl, if_neg hl, List.drop_drop]
            cases eat (l.drop (i + 1 + z)) with
            | error k => rfl
            | ok k =>
              dsimp only
              rw [List.drop_drop, show i + 1 + (z + k) = i + 1 + z + k by omega]
end Go.Proofs.YtabpgpbcnadgcaaGreatDoor
namespace Go.Proofs.YtabpgpbcnadgcaaGreatDoor
open Go.RowKit Go.Shelf TextNum
/-- a hex digit's worth -/
def hxi (c : UInt8) : Int := match hxv c with
  | none => -1
  | some v => (v.toNat : Int)
theorem hxi_eq (c : UInt8) : hxi c = if 48 ≤ c.toNat ∧ c.toNat ≤ 57 then (c.toNat : Int) - 48 else if 97 ≤ c.toNat ∧ c.toNat ≤ 102 then (c.toNat : Int) - 97 + 10 else if 65 ≤ c.toNat ∧ c.toNat ≤ 70 then (c.toNat : Int) - 65 + 10 else -1 := by
  have h : ∀ n : Nat, n < 256 → hxi (UInt8.ofNat n) = if 48 ≤ n ∧ n ≤ 57 then (n : Int) - 48 else if 97 ≤ n ∧ n ≤ 102 then (n : Int) - 97 + 10 else if 65 ≤ n ∧ n ≤ 70 then (n : Int) - 65 + 10 else -1 := by decide +kernel
  have h1 := h c.toNat c.toNat_lt
  rw [UInt8.ofNat_toNat] at h1
  exact h1
set_option maxRecDepth 100000 in
theorem Rhex_walk (c : UInt8) (w : World) : Calls Tryz.prog 112 #[vb c] w fun e w' => e = .returned (.int .i64 (hxi c)) ∧ w' = w := by
  have hlt := c.toNat_lt
  obtain ⟨rv, hrv⟩ : ∃ rv, hxi c = rv := ⟨_, rfl⟩
  have HR := Hid.of (hxi_eq c)
  rw [hrv] at HR ⊢
  clear hrv
  have HD := Hid.of (Rdigit_walk c w)
  have HDb := Hid.of (show isD c = (decide (48 ≤ c.toNat) && decide (c.toNat ≤ 57)) from rfl)
  go_enter Tryz.func112, Tryz.ntmps112
  go_wp2_with fail
  refine HD.out.mono ?_
  rintro e w9 ⟨rfl, h9⟩
  obtain rfl := h9.symm
  clear h9 HD
  dsimp only
  cases hd : isD c with
  | true =>
    have hdn := isD_nat hd
    have HE := Hid.of (show rv = (c.toNat : Int) - 48 by rw [HR.out, if_pos hdn])
    have hw2 : IntKind.u8.wrap ((c.toNat : Int) - 48) = (c.toNat : Int) - 48 := wrapu8 _ (by omega) (by omega)
    have hw3 : IntKind.i64.wrap ((c.toNat : Int) - 48) = (c.toNat : Int) - 48 := wrapk _ (by omega) (by omega)
    go_wp2
    go_ret
    rw [HE.out]
    exact ⟨rfl, rfl⟩
  | false =>
    have hdn : ¬ (48 ≤ c.toNat ∧ c.toNat ≤ 57) := by
      intro h
      have h2 := HDb.out
      rw [hd, decide_eq_true h.1, decide_eq_true h.2] at h2
      cases h2
    by_cases h97 : 97 ≤ c.toNat ∧ c.toNat ≤ 102
    · obtain ⟨g1, g2⟩ := h97
      have g1z : (97 : Int) ≤ (c.toNat : Int) := by omega
      have g2z : (c.toNat : Int) ≤ 102 := by omega
      have HE := Hid.of (show rv = (c.toNat : Int) - 97 + 10 by rw [HR.out, if_neg hdn, if_pos ⟨g1, g2⟩])
      have hw2 : IntKind.u8.wrap ((c.toNat : Int) - 97) = (c.toNat : Int) - 97 := wrapu8 _ (by omega) (by omega)
      have hw3 : IntKind.i64.wrap ((c.toNat : Int) - 97) = (c.toNat : Int) - 97 := wrapk _ (by omega) (by omega)
      have hw4 : IntKind.i64.wrap ((c.toNat : Int) - 97 + 10) = (c.toNat : Int) - 97 + 10 := wrapk _ (by omega) (by omega)
      clear hdn
      go_wp2
      go_ret
      rw [HE.out]
      exact ⟨rfl, rfl⟩
    · by_cases h65 : 65 ≤ c.toNat ∧ c.toNat ≤ 70
      · obtain ⟨g1, g2⟩ := h65
        have g0z : ¬ (97 : Int) ≤ (c.toNat : Int) := by omega
        have g1z : (65 : Int) ≤ (c.toNat : Int) := by omega
        have g2z : (c.toNat : Int) ≤ 70 := by omega
        have HE := Hid.of (show rv = (c.toNat : Int) - 65 + 10 by rw [HR.out, if_neg hdn, if_neg h97, if_pos ⟨g1, g2⟩])
        have hw2 : IntKind.u8.wrap ((c.toNat : Int) - 65) = (c.toNat : Int) - 65 := wrapu8 _ (by omega) (by omega)
        have hw3 : IntKind.i64.wrap ((c.toNat : Int) - 65) = (c.toNat : Int) - 65 := wrapk _ (by omega) (by omega)
        have hw4 : IntKind.i64.wrap ((c.toNat : Int) - 65 + 10) = (c.toNat : Int) - 65 + 10 := wrapk _ (by omega) (by omega)
        clear hdn h97
        go_wp2
        go_ret
        rw [HE.out]
        exact ⟨rfl, rfl⟩
      · have HE := Hid.of (show rv = -1 by rw [HR.out, if_neg hdn, if_neg h97, if_neg h65])
        by_cases g1 : 97 ≤ c.toNat
        · have g1z : (97 : Int) ≤ (c.toNat : Int) := by omega
          have g2z : ¬ (c.toNat : Int) ≤ 102 := by omega
          have g3z : (65 : Int) ≤ (c.toNat : Int) := by omega
          have g4z : ¬ (c.toNat : Int) ≤ 70 := by omega
          clear hdn h97 h65
          go_wp2
          go_ret
          rw [HE.out]
          exact ⟨rfl, rfl⟩
        · have g1z : ¬ (97 : Int) ≤ (c.toNat : Int) := by omega
          by_cases g3 : 65 ≤ c.toNat
          · have g3z : (65 : Int) ≤ (c.toNat : Int) := by omega
            have g4z : ¬ (c.toNat : Int) ≤ 70 := by omega
            clear hdn h97 h65
            go_wp2
            go_ret
            rw [HE.out]
            exact ⟨rfl, rfl⟩
          · have g3z : ¬ (65 : Int) ≤ (c.toNat : Int) := by omega
            clear hdn h97 h65
            go_wp2
            go_ret
            rw [HE.out]
            exact ⟨rfl, rfl⟩
theorem hxs_app (n : Nat) : ∀ (a b : List UInt8), hxs n (a ++ b) = match hxs n a with | none => none | some m => hxs m b := by
  intro a
  induction a generalizing n with
  | nil => intro b; rfl
  | cons x a ih =>
    intro b
    rw [List.cons_append]
    simp only [hxs]
    cases hxv x with
    | none => rfl
    | some v => exact ih _ b
/-- the size that a chunk's line tells, as a number -/
def chN (l : List UInt8) : Int := if 256 < l.length then -1 else match chl l with
  | none => -1
  | some n => (n : Int)
set_option maxRecDepth 100000 in
set_option maxHeartbeats 4000000 in
theorem RchunkLine_walk (s : ByteArray) (hs : s.size ≤ 1099511627000) (w : World) : Calls Tryz.prog 84 #[.string s] w fun e w' => e = .returned (.int .i64 (chN s.data.toList)) ∧ Up w w' := by
  have HS := Hid.of (Go.Lib.size_eq s)
  obtain ⟨rv, hrv⟩ : ∃ rv, chN s.data.toList = rv := ⟨_, rfl⟩
  have HR := Hid.of hrv
  unfold chN at HR
  rw [hrv]
  clear hrv
  by_cases h256 : 256 < s.size
  · have hz : (256 : Int) < (s.size : Int) := by omega
    have HE := Hid.of (show rv = -1 by rw [← HR.out, if_pos (by rw [← HS.out]; exact h256)])
    go_enter Tryz.func84, Tryz.ntmps84
    go_wp2
    go_ret
    rw [HE.out]
    exact ⟨rfl, Up.refl _⟩
  · have hz : ¬ (256 : Int) < (s.size : Int) := by omega
    have HR2 := Hid.of (show rv = match chl s.data.toList with | none => -1 | some n => (n : Int) by rw [← HR.out, if_neg (by rw [← HS.out]; exact h256)])
    unfold chl at HR2
    have HPc := Hid.of (Rpieces_walk s 59 (by omega) w)
    have hlz := pcs_small 59 s.data.toList
    have HVl := Hid.of (fun w => Rvalued_walk s (by omega) w)
    generalize hvl : vlu s.data.toList = bv at *
    clear hvl HR
    obtain ⟨z, r, hzr⟩ : ∃ z r, pcs 59 s.data.toList = z :: r := by
      cases h : pcs 59 s.data.toList with
      | nil => exact absurd h (pcs_ne 59 _)
      | cons z r => exact ⟨z, r, rfl⟩
    rw [hzr] at HPc HR2 hlz
    have hzl := hlz z (by simp)
    rw [← HS.out] at hzl
    rw [show (z :: r).headD [] = z from rfl] at HR2
    obtain ⟨n, hn⟩ : ∃ n, (z :: r).length = n := ⟨_, rfl⟩
    have hnp : 0 < n := by rw [← hn, List.length_cons]; omega
    have HNn := Hid.of (show (bts (z :: r)).length = n by rw [bts_len]; exact hn)
    have HB0 := Hid.of (show bts (z :: r) = ⟨z.toArray⟩ :: bts r from rfl)
    rw [hn] at HPc
    clear hn hlz hzr
    go_enter Tryz.func84, Tryz.ntmps84
    go_wp2_with fail
    refine HPc.out.mono ?_
    rintro e w2 ⟨⟨a2, c2, rfl, hO⟩, h9⟩
    have HU2 := Hid.of h9
    obtain ⟨b0, off, rfl, k0⟩ := hO.out.stl.cells 0 (by rw [HNn.out]; omega)
    have hcap := hO.out.stl.cap
    rw [HNn.out] at hcap
    have k0' : w2.cell? ⟨b0, off, none⟩ = some (.string ⟨z.toArray⟩) := by
      simp only [HB0.out] at k0
      exact k0
    clear h9 HPc hO k0 HB0 HNn
    dsimp only
    obtain ⟨Z, hZ⟩ : ∃ Z : ByteArray, (⟨z.toArray⟩ : ByteArray) = Z := ⟨_, rfl⟩
    have HZl := Hid.of (show Z.data.toList = z by rw [← hZ])
    have HZs := Hid.of (show Z.size = z.length by rw [Go.Lib.size_eq, HZl.out])
    rw [hZ] at k0'
    clear hZ
    have hZb : Z.size ≤ 256 := by rw [HZs.out]; omega
    by_cases hz0 : Z.size = 0
    · have hem := emp_yes hz0
      have HE := Hid.of (show rv = -1 by
        have : z = [] := List.length_eq_zero_iff.1 (by rw [← HZs.out]; exact hz0)
        rw [HR2.out, if_pos (.inl this)])
      go_wp2
      go_ret
      rw [HE.out]
      exact ⟨rfl, HU2.out⟩
    · have hem := emp_no (s := Z) (by omega)
      by_cases h8 : 8 < Z.size
      · have h8z : (8 : Int) < (Z.size : Int) := by omega
        have HE := Hid.of (show rv = -1 by rw [HR2.out, if_pos (.inr (.inl (by rw [← HZs.out]; exact h8)))])
        go_wp2
        go_ret
        rw [HE.out]
        exact ⟨rfl, HU2.out⟩
      · have h8z : ¬ (8 : Int) < (Z.size : Int) := by omega
        go_wp2_with fail
        refine (HVl.out _).mono ?_
        rintro e w3 ⟨rfl, h9⟩
        have HU3 := Hid.of (HU2.out.trans h9)
        clear h9 HVl k0'
        dsimp only
        cases bv with
        | false =>
          have HE := Hid.of (show rv = -1 by rw [HR2.out, if_pos (.inr (.inr rfl))])
          go_wp2
          go_ret
          rw [HE.out]
          exact ⟨rfl, HU3.out⟩
        | true =>
          have HR3 := Hid.of (show rv = match hxs 0 z with | none => -1 | some n => (n : Int) by
            rw [HR2.out, if_neg]
            rintro (h | h | h)
            · exact hz0 (by rw [HZs.out, h]; rfl)
            · exact h8 (by rw [HZs.out]; exact h)
            · cases h)
          have HG := Hid.of (show ∀ i (h : i < Z.size), Z[i] = z[i]'(by rw [← HZs.out]; exact h) from fun i h => by
            have h1 := HZl.out
            subst h1
            rfl)
          clear HR2
          go_wp2
          go_loopw [5, 6] (fun v5 v6 wr => ∃ i k : Nat, v6 = .int .i64 (i : Int) ∧ v5 = .int .i64 (k : Int) ∧ i ≤ Z.size ∧ k < 16 ^ i ∧ Hid (Up w wr ∧ hxs 0 (z.take i) = some k)) (fun _ v6 _ => Z.size - (intOf v6).toNat)
          case atStart => exact ⟨0, 0, rfl, rfl, Nat.zero_le _, by decide, Hid.of ⟨HU3.out, rfl⟩⟩
          case round =>
            obtain ⟨i, k, rfl, rfl, hi, hk, hU⟩ := hrel
            have HU := Hid.of hU.out
            clear hU
            by_cases hil : i < Z.size
            · have hilz : (i : Int) < (Z.size : Int) := by omega
              have hg := HG.out i hil
              have hiz : i < z.length := by rw [← HZs.out]; exact hil
              have HT := Hid.of (List.take_succ_eq_append_getElem hiz)
              have HFl := Hid.of (show hxv z[i] = none → rv = -1 from fun h => by
                rw [HR3.out, ← List.take_append_drop i z, hxs_app, HU.out.2]
                dsimp only
                rw [List.drop_eq_getElem_cons hiz]
                simp only [hxs, h])
              generalize z[i]'(by rw [← HZs.out]; exact hil) = x at *
              clear hiz
              have hp := pow16_le i (by omega)
              have hk28 : k < 268435456 := by omega
              have HH := Hid.of (show ∀ w, Calls Tryz.prog 112 #[vb x] w fun e w' => e = .returned (.int .i64 (hxi x)) ∧ w' = w from fun w => Rhex_walk x w)
              cases hv : hxv x with
              | none =>
                have HE := Hid.of (HFl.out hv)
                have hxx : hxi x = -1 := by unfold hxi; rw [hv]
                rw [hxx] at HH
                go_wp2_with fail
                refine (HH.out _).mono ?_
                rintro e w9 ⟨rfl, h9⟩
                obtain rfl := h9.symm
                clear h9
                dsimp only
                go_wp2
                go_ret
                rw [HE.out]
                exact ⟨rfl, HU.out.1⟩
              | some v =>
                have hv15 := hxv_le' hv
                have hxx : hxi x = (v.toNat : Int) := by unfold hxi; rw [hv]
                rw [hxx] at HH
                have HN := Hid.of (show hxs 0 (z.take (i + 1)) = some (16 * k + v.toNat) by rw [HT.out, hxs_snoc, HU.out.2, hv])
                have hpk : 16 * k + v.toNat < 16 ^ (i + 1) := by rw [Nat.pow_succ]; omega
                have hw1 : IntKind.i64.wrap (16 * (k : Int)) = 16 * (k : Int) := wrapk _ (by omega) (by omega)
                have hw2 : IntKind.i64.wrap (16 * (k : Int) + (v.toNat : Int)) = 16 * (k : Int) + (v.toNat : Int) := wrapk _ (by omega) (by omega)
                have hv0 : ¬ (v.toNat : Int) < 0 := by omega
                clear hxx hv HFl HT
                go_wp2_with fail
                refine (HH.out _).mono ?_
                rintro e w9 ⟨rfl, h9⟩
                obtain rfl := h9.symm
                clear h9
                dsimp only
                go_wp2_with fail
                refine (HH.out _).mono ?_
                rintro e w9 ⟨rfl, h9⟩
                obtain rfl := h9.symm
                clear h9
                dsimp only
                go_wp2
                go_roundw
                all_goals first
                  | exact ⟨i + 1, 16 * k + v.toNat, by go_num, by simp only [Value.int.injEq, true_and]; omega, by omega, hpk, Hid.of ⟨HU.out.1, HN.out⟩⟩
                  | (simp [intOf]; omega)
            · have hilz : ¬ (i : Int) < (Z.size : Int) := by omega
              have HE := Hid.of (show rv = (k : Int) by
                have h1 := HU.out.2
                rw [List.take_of_length_le (by rw [← HZs.out]; omega)] at h1
                rw [HR3.out, h1])
              go_wp2
              go_ret
              rw [HE.out]
              exact ⟨rfl, HU.out.1⟩
end Go.Proofs.YtabpgpbcnadgcaaGreatDoor
namespace Go.Proofs.YtabpgpbcnadgcaaGreatDoor
open Go.RowKit Go.Shelf TextNum
/-- behind the line's end, as a number -/
def eaN (l : List UInt8) (k : Nat) : Int := match eat (l.drop k) with
  | .error e => if e = 2 then -2 else -1
  | .ok j => ((k + j : Nat) : Int)
set_option maxRecDepth 100000 in
set_option maxHeartbeats 2000000 in
theorem RendAt_walk (s : ByteArray) (k : Nat) (hk : k ≤ s.size) (hs : s.size ≤ 1099511627776) (w : World) : Calls Tryz.prog 85 #[.string s, .int .i64 (k : Int)] w fun e w' => e = .returned (.int .i64 (eaN s.data.toList k)) ∧ Up w w' := by
  have HS := Hid.of (Go.Lib.size_eq s)
  obtain ⟨rv, hrv⟩ : ∃ rv, eaN s.data.toList k = rv := ⟨_, rfl⟩
  have HR := Hid.of hrv
  unfold eaN at HR
  rw [hrv]
  clear hrv
  have hkz : (k : Int) ≤ (s.size : Int) := by omega
  obtain ⟨R, hR⟩ : ∃ R : ByteArray, s.extract k s.size = R := ⟨_, rfl⟩
  have HRl := Hid.of (show R.data.toList = s.data.toList.drop k by rw [← hR, extr_drop])
  have HRz := Hid.of (Go.Lib.size_eq R)
  rw [← HRl.out] at HR
  clear HRl HS
  cases hc : R.data.toList with
  | nil =>
    have hem := emp_yes (s := R) (by rw [HRz.out, hc]; rfl)
    have HE := Hid.of (show rv = -2 by rw [← HR.out, hc]; rfl)
    clear hc
    go_enter Tryz.func85, Tryz.ntmps85
    go_wp2
    go_ret
    rw [HE.out]
    exact ⟨rfl, Up.refl _⟩
  | cons x t =>
    have hz : 0 < R.size := by rw [HRz.out, hc, List.length_cons]; omega
    have hzz : (0 : Int) < (R.size : Int) := by omega
    have hem := emp_no hz
    have hg0 : R[0] = x := by
      rw [sget' R 0 hz]
      simp only [hc, List.getElem_cons_zero]
    cases t with
    | nil =>
      by_cases h13 : x = 13
      · subst h13
        have hq : (R.toList == [13]) = true := by rw [Go.Lib.toList_data, hc]; rfl
        have HE := Hid.of (show rv = -2 by rw [← HR.out, hc]; rfl)
        clear hc
        go_enter Tryz.func85, Tryz.ntmps85
        go_wp2
        go_ret
        rw [HE.out]
        exact ⟨rfl, Up.refl _⟩
      · have hq : (R.toList == [13]) = false := by rw [Go.Lib.toList_data, hc, beq_eq_false_iff_ne]; simpa using h13
        have h13z : ((x.toNat : Int) == 13) = false := by
          have := neU (k := 13) rfl h13
          rw [bne] at this
          simpa using this
        by_cases h10 : x = 10
        · subst h10
          have HE := Hid.of (show rv = ((k + 1 : Nat) : Int) by rw [← HR.out, hc]; rfl)
          clear hc
          go_enter Tryz.func85, Tryz.ntmps85
          go_wp2
          go_ret
          rw [HE.out]
          exact ⟨congrArg (fun z => Ending.returned (Value.int IntKind.i64 z)) (by omega), Up.refl _⟩
        · have h10z : ((x.toNat : Int) == 10) = false := by
            have := neU (k := 10) rfl h10
            rw [bne] at this
            simpa using this
          have HE := Hid.of (show rv = -1 by
            rw [← HR.out, hc]
            unfold eat
            dsimp only
            rw [if_neg h10, if_neg h13]
            rfl)
          clear hc h13 h10
          go_enter Tryz.func85, Tryz.ntmps85
          go_wp2
          go_ret
          rw [HE.out]
          exact ⟨rfl, Up.refl _⟩
    | cons y t =>
      have hz1 : 1 < R.size := by rw [HRz.out, hc, List.length_cons, List.length_cons]; omega
      have hz1z : (1 : Int) < (R.size : Int) := by omega
      have hg1 : R[1] = y := by
        rw [sget' R 1 hz1]
        simp only [hc, List.getElem_cons_succ, List.getElem_cons_zero]
      have hq : (R.toList == [13]) = false := by rw [Go.Lib.toList_data, hc, beq_eq_false_iff_ne]; simp
      by_cases h10 : x = 10
      · subst h10
        have HE := Hid.of (show rv = ((k + 1 : Nat) : Int) by rw [← HR.out, hc]; rfl)
        clear hc
        go_enter Tryz.func85, Tryz.ntmps85
        go_wp2
        go_ret
        rw [HE.out]
        exact ⟨congrArg (fun z => Ending.returned (Value.int IntKind.i64 z)) (by omega), Up.refl _⟩
      · have h10z : ((x.toNat : Int) == 10) = false := by
          have := neU (k := 10) rfl h10
          rw [bne] at this
          simpa using this
        by_cases h13 : x = 13
        · subst h13
          by_cases hy : y = 10
          · subst hy
            have HE := Hid.of (show rv = ((k + 2 : Nat) : Int) by rw [← HR.out, hc]; rfl)
            clear hc
            go_enter Tryz.func85, Tryz.ntmps85
            go_wp2
            go_ret
            rw [HE.out]
            exact ⟨congrArg (fun z => Ending.returned (Value.int IntKind.i64 z)) (by omega), Up.refl _⟩
          · have hyz : ((y.toNat : Int) == 10) = false := by
              have := neU (k := 10) rfl hy
              rw [bne] at this
              simpa using this
            have HE := Hid.of (show rv = -1 by
              rw [← HR.out, hc]
              have e2 : eat (13 :: y :: t) = if y = 10 then .ok 2 else .error 8 := rfl
              rw [e2, if_neg hy]
              rfl)
            clear hc hy h10
            go_enter Tryz.func85, Tryz.ntmps85
            go_wp2
            go_ret
            rw [HE.out]
            exact ⟨rfl, Up.refl _⟩
        · have h13z : ((x.toNat : Int) == 13) = false := by
            have := neU (k := 13) rfl h13
            rw [bne] at this
            simpa using this
          have HE := Hid.of (show rv = -1 by
            rw [← HR.out, hc]
            unfold eat
            dsimp only
            rw [if_neg h10, if_neg h13]
            rfl)
          clear hc h13 h10
          go_enter Tryz.func85, Tryz.ntmps85
          go_wp2
          go_ret
          rw [HE.out]
          exact ⟨rfl, Up.refl _⟩
end Go.Proofs.YtabpgpbcnadgcaaGreatDoor
namespace Go.Proofs.YtabpgpbcnadgcaaGreatDoor
open Go.RowKit Go.Shelf TextNum
def RunR (w w' : World) (e : Ending) : Er (List UInt8 × Nat) → Prop
  | .error k => e = .returned (.tuple #[.slice none 0 0, .int .i64 0, .int .i64 (numK k)])
  | .ok (b, n) => ∃ v, e = .returned (.tuple #[v, .int .i64 (n : Int), .int .i64 0]) ∧ Hid (Ow w' w.heap.size v b)
/-- the chunks from there on -/
def uncA (L b : List UInt8) (k : Nat) : Er (List UInt8 × Nat) := match unc ((L.drop k).length + 1) b (L.drop k) with
  | .error e => .error e
  | .ok (x, r) => .ok (x, L.length - r.length)
theorem eat_len {r : List UInt8} {j : Nat} (h : eat r = .ok j) : 0 < j ∧ j ≤ r.length := by
  match r, h with
  | [], h => cases h
  | [x], h =>
    unfold eat at h
    dsimp only at h
    split at h
    · injection h with h; subst h; exact ⟨by omega, by simp⟩
    · split at h <;> cases h
  | x :: y :: t, h =>
    unfold eat at h
    dsimp only at h
    split at h
    · injection h with h; subst h; exact ⟨by omega, by simp⟩
    · split at h
      · split at h
        · injection h with h; subst h; exact ⟨by omega, by simp⟩
        · cases h
      · cases h
theorem eat_er {r : List UInt8} {k : Nat} (h : eat r = .error k) : k = 2 ∨ k = 8 := by
  match r, h with
  | [], h => injection h with h; exact .inl h.symm
  | [x], h =>
    unfold eat at h
    dsimp only at h
    split at h
    · cases h
    · split at h
      · injection h with h; exact .inl h.symm
      · injection h with h; exact .inr h.symm
  | x :: y :: t, h =>
    unfold eat at h
    dsimp only at h
    split at h
    · cases h
    · split at h
      · split at h
        · cases h
        · injection h with h; exact .inr h.symm
      · injection h with h; exact .inr h.symm
theorem hxs_lt : ∀ (l : List UInt8) (n m : Nat), hxs n l = some m → m < (n + 1) * 16 ^ l.length
  | [], n, m, h => by
    injection h with h
    subst h
    simp
  | x :: l, n, m, h => by
    simp only [hxs] at h
    cases hv : hxv x with
    | none => rw [hv] at h; cases h
    | some v =>
      rw [hv] at h
      have h1 := hxs_lt l _ m h
      have h2 := hxv_le' hv
      have h3 : (16 * n + v.toNat + 1) * 16 ^ l.length ≤ (16 * (n + 1)) * 16 ^ l.length := Nat.mul_le_mul_right _ (by omega)
      have h4 : (n + 1) * 16 ^ (x :: l).length = (16 * (n + 1)) * 16 ^ l.length := by
        rw [List.length_cons, Nat.pow_succ, Nat.mul_comm (16 ^ l.length) 16, ← Nat.mul_assoc, Nat.mul_comm (n + 1) 16]
      omega
theorem chl_lt {l : List UInt8} {z : Nat} (h : chl l = some z) : z < 4294967296 := by
  unfold chl at h
  split at h
  · cases h
  · rename_i hc
    have h1 := hxs_lt _ 0 z h
    have h8 : ((pcs 59 l).headD []).length ≤ 8 := by
      rcases Nat.lt_or_ge 8 ((pcs 59 l).headD []).length with h' | h'
      · exact absurd (.inr (.inl h')) hc
      · exact h'
    have h2 : 16 ^ ((pcs 59 l).headD []).length ≤ 16 ^ 8 := Nat.pow_le_pow_right (by omega) h8
    have h3 : (16 : Nat) ^ 8 = 4294967296 := by decide
    omega
theorem uncA_step (L b : List UInt8) (k : Nat) (hk : k ≤ L.length) : uncA L b k = match fnl (L.drop k) with
    | none => if L.length - k < 258 then .error 2 else .error 20
    | some i => if 256 < (tcr ((L.drop k).take i)).length then .error 20 else match chl (tcr ((L.drop k).take i)) with
      | none => .error 8
      | some z => if 1048576 < b.length + z then .error 1 else if L.length - (k + i + 1) < z then .error 2 else match eat (L.drop (k + i + 1 + z)) with
        | .error e => .error e
        | .ok j => if z = 0 then .ok (b ++ (L.drop (k + i + 1)).take z, k + i + 1 + z + j) else uncA L (b ++ (L.drop (k + i + 1)).take z) (k + i + 1 + z + j) := by
  have hl : (L.drop k).length = L.length - k := List.length_drop
  have key : uncA L b k = match unc ((L.drop k).length + 1) b (L.drop k) with
    | .error e => .error e
    | .ok (x, r) => .ok (x, L.length - r.length) := rfl
  rw [key, unc_step]
  cases hf : fnl (L.drop k) with
  | none =>
    dsimp only
    rw [hl]
    by_cases h : L.length - k < 258
    · rw [if_pos h, if_pos h]
    · rw [if_neg h, if_neg h]
  | some i =>
    have hi := fnl_lt hf
    dsimp only
    by_cases h : 256 < (tcr ((L.drop k).take i)).length
    · rw [if_pos h, if_pos h]
    · rw [if_neg h, if_neg h]
      cases chl (tcr ((L.drop k).take i)) with
      | none => rfl
      | some z =>
        dsimp only
        by_cases hm : 1048576 < b.length + z
        · rw [if_pos hm, if_pos hm]
        · rw [if_neg hm, if_neg hm]
          simp only [List.drop_drop, List.length_drop]
          rw [show k + (i + 1) = k + i + 1 by omega]
          by_cases hz : L.length - (k + i + 1) < z
          · rw [if_pos hz, if_pos hz]
          · rw [if_neg hz, if_neg hz, show k + (i + 1 + z) = k + i + 1 + z by omega]
            cases he : eat (L.drop (k + i + 1 + z)) with
            | error e => rfl
            | ok j =>
              have hj := eat_len he
              rw [List.length_drop] at hj
              dsimp only
              rw [show k + (i + 1 + z + j) = k + i + 1 + z + j by omega]
              by_cases h0 : z = 0
              · rw [if_pos h0, if_pos h0]
                dsimp only
                rw [List.length_drop, show L.length - (L.length - (k + i + 1 + z + j)) = k + i + 1 + z + j by omega]
              · rw [if_neg h0, if_neg h0]
                unfold uncA
                rw [unc_fuel (L.length - k) ((L.drop (k + i + 1 + z + j)).length + 1) _ _ (by rw [List.length_drop]; omega) (by omega)]
set_option maxRecDepth 100000 in
set_option maxHeartbeats 8000000 in
theorem RUnchunk_walk {a : Option Addr} {n c : Nat} {ds : List UInt8} (hn40 : n ≤ 1099511627000) (w : World) (hS : Sb w (.slice a n c) ds) : Calls Tryz.prog 34 #[.slice a n c] w fun e w' => RunR w w' e (unk ds) ∧ Up w w' := by
  obtain ⟨hn, hnc, hcm⟩ := hS.len
  have hcv := conv_sb2 hS
  clear hS hnc hcm
  obtain ⟨s, hs⟩ : ∃ s : ByteArray, (⟨ds.toArray⟩ : ByteArray) = s := ⟨_, rfl⟩
  have HL := Hid.of (show s.data.toList = ds by rw [← hs])
  have HZ := Hid.of (show s.size = ds.length by rw [Go.Lib.size_eq, HL.out])
  have hsz : s.size ≤ 1099511627000 := by rw [HZ.out]; omega
  rw [hs] at hcv
  clear hs hn
  obtain ⟨rv, hrv⟩ : ∃ rv, unk ds = rv := ⟨_, rfl⟩
  have HR := Hid.of (show rv = uncA ds [] 0 from hrv.symm)
  rw [hrv]
  clear hrv
  go_enter Tryz.func34, Tryz.ntmps34
  go_wp2
  clear hcv
  go_loopw [6, 7] (fun v6 v7 wr => ∃ (k m : Nat) (a6 : Option Addr) (c6 : Nat), v7 = .int .i64 (k : Int) ∧ v6 = .slice a6 m c6 ∧ k ≤ s.size ∧ m ≤ 1048576 ∧ Hid (∃ out, out.length = m ∧ Ow wr w.heap.size (.slice a6 m c6) out ∧ Up w wr ∧ rv = uncA ds out k)) (fun _ v7 _ => s.size - (intOf v7).toNat)
  case atStart => exact ⟨0, 0, none, 0, rfl, rfl, Nat.zero_le _, Nat.zero_le _, Hid.of ⟨[], rfl, World.ownsRow_nil _ _ _ _, Up.refl _, HR.out⟩⟩
  case round =>
    obtain ⟨k, m, a6, c6, rfl, rfl, hk, hm, hU⟩ := hrel
    obtain ⟨out, hol, hOw, hUp, hrv⟩ := hU.out
    have HO := Hid.of hOw
    have HU := Hid.of hUp
    have HOl := Hid.of hol
    have HSt := Hid.of (hrv.trans (uncA_step ds out k (by rw [← HZ.out]; exact hk)))
    clear hU hOw hUp hrv hol HR
    have HLn := Hid.of (RlineAt_walk s k (by omega) (by omega) wr)
    rw [HL.out] at HLn
    have HA : Hid (lnA ds k = match fnl (ds.drop k) with | none => ([], -1) | some i => (tcr ((ds.drop k).take i), ((k + i + 1 : Nat) : Int))) := Hid.of rfl
    cases hf : fnl (ds.drop k) with
    | none =>
      rw [hf] at HSt HA
      dsimp only at HSt HA
      rw [HA.out] at HLn
      dsimp only at HLn
      go_wp2_with fail
      refine HLn.out.mono ?_
      rintro e w2 ⟨rfl, h9⟩
      have HU2 := Hid.of (HU.out.trans h9)
      clear h9 HLn HA hf
      dsimp only
      by_cases h258 : s.size - k < 258
      · have hz : ¬ (257 : Int) < (s.size : Int) - (k : Int) := by omega
        have HE := Hid.of (show rv = .error 2 by rw [HSt.out, if_pos (by rw [← HZ.out]; exact h258)])
        clear HSt
        go_wp2
        go_ret3
        rw [HE.out]
        exact ⟨rfl, HU2.out⟩
      · have hz : (257 : Int) < (s.size : Int) - (k : Int) := by omega
        have HE := Hid.of (show rv = .error 20 by rw [HSt.out, if_neg (by rw [← HZ.out]; exact h258)])
        clear HSt
        go_wp2
        go_ret3
        rw [HE.out]
        exact ⟨rfl, HU2.out⟩
    | some i =>
      have hil := fnl_lt hf
      rw [List.length_drop, ← HZ.out] at hil
      rw [hf] at HSt HA
      dsimp only at HSt HA
      rw [HA.out] at HLn
      dsimp only at HLn
      have hlen := tcr_len ((ds.drop k).take i)
      rw [List.length_take] at hlen
      generalize tcr ((ds.drop k).take i) = ln at *
      obtain ⟨nx, hnx⟩ : ∃ nx, k + i + 1 = nx := ⟨_, rfl⟩
      rw [hnx] at HSt HLn
      have hnk : k < nx := by omega
      have hns : nx ≤ s.size := by omega
      obtain ⟨X, hX⟩ : ∃ X : ByteArray, (⟨ln.toArray⟩ : ByteArray) = X := ⟨_, rfl⟩
      have HXl := Hid.of (show X.data.toList = ln by rw [← hX])
      have hXz : X.size ≤ s.size := by rw [Go.Lib.size_eq, HXl.out]; omega
      have hvX : vs ln = .string X := by rw [← hX]
      rw [hvX] at HLn
      have HCl := Hid.of (show ∀ w, Calls Tryz.prog 84 #[.string X] w fun e w' => e = .returned (.int .i64 (chN ln)) ∧ Up w w' from fun w => by
        have h := RchunkLine_walk X (by omega) w
        rw [HXl.out] at h
        exact h)
      clear hX hvX hlen HXl hf hil hnx HA
      have hnx0 : ¬ (nx : Int) < 0 := by omega
      go_wp2_with fail
      refine HLn.out.mono ?_
      rintro e w2 ⟨rfl, h9⟩
      have HU2 := Hid.of (HU.out.trans h9)
      have HO2 := Hid.of (ow_up HO.out h9)
      clear h9 HLn HU HO
      dsimp only
      go_wp2_with fail
      refine (HCl.out _).mono ?_
      rintro e w3 ⟨rfl, h9⟩
      have HU3 := Hid.of (HU2.out.trans h9)
      have HO3 := Hid.of (ow_up HO2.out h9)
      clear h9 HCl HU2 HO2
      dsimp only
      by_cases hbad : 256 < ln.length ∨ chl ln = none
      · have hcn : chN ln = -1 := by
          unfold chN
          rcases hbad with h | h
          · rw [if_pos h]
          · rw [h]
            split <;> rfl
        have HE := Hid.of (show ∃ q, rv = .error q ∧ numK q = 146 by
          rw [HSt.out]
          by_cases h : 256 < ln.length
          · rw [if_pos h]; exact ⟨20, rfl, rfl⟩
          · rw [if_neg h, hbad.resolve_left h]; exact ⟨8, rfl, rfl⟩)
        rw [hcn]
        clear hcn hbad HSt
        obtain ⟨q, hq1, hq2⟩ := HE.out
        have HE1 := Hid.of hq1
        have HE2 := Hid.of hq2
        clear HE hq1 hq2
        go_wp2
        go_ret3
        rw [HE1.out]
        refine ⟨?_, HU3.out⟩
        show Ending.returned _ = Ending.returned _
        rw [HE2.out]
        rfl
      · obtain ⟨hb1, hb2⟩ := not_or.1 hbad
        obtain ⟨z, hzc⟩ : ∃ z, chl ln = some z := by
          cases h : chl ln with
          | none => exact absurd h hb2
          | some z => exact ⟨z, rfl⟩
        have hzl := chl_lt hzc
        have hcn : chN ln = (z : Int) := by unfold chN; rw [if_neg hb1, hzc]
        rw [if_neg hb1, hzc] at HSt
        dsimp only at HSt
        rw [hcn]
        rw [HOl.out] at HSt
        clear hcn hbad hb1 hb2 hzc
        have hz0 : ¬ (z : Int) < 0 := by omega
        have hwm : IntKind.i64.wrap ((m : Int) + (z : Int)) = (m : Int) + (z : Int) := wrapk _ (by omega) (by omega)
        by_cases hbig : 1048576 < m + z
        · have hbz : (1048576 : Int) < (m : Int) + (z : Int) := by omega
          have HE := Hid.of (show rv = .error 1 by rw [HSt.out, if_pos hbig])
          clear HSt
          go_wp2
          go_ret3
          rw [HE.out]
          exact ⟨rfl, HU3.out⟩
        · have hbz : ¬ (1048576 : Int) < (m : Int) + (z : Int) := by omega
          rw [if_neg hbig] at HSt
          by_cases hsh : s.size - nx < z
          · have hsz2 : (s.size : Int) - (nx : Int) < (z : Int) := by omega
            have HE := Hid.of (show rv = .error 2 by rw [HSt.out, if_pos (by rw [← HZ.out]; exact hsh)])
            clear HSt
            go_wp2
            go_ret3
            rw [HE.out]
            exact ⟨rfl, HU3.out⟩
          · have hsz2 : ¬ (s.size : Int) - (nx : Int) < (z : Int) := by omega
            rw [if_neg (by rw [← HZ.out]; exact hsh)] at HSt
            obtain ⟨T, hT⟩ : ∃ T, (ds.drop nx).take z = T := ⟨_, rfl⟩
            have hTl : T.length = z := by rw [← hT, List.length_take, List.length_drop, ← HZ.out]; omega
            rw [hT] at HSt
            have HX2 := Hid.of (show (s.extract nx (nx + z)).data.toList = T by rw [extr_mid, HL.out, show nx + z - nx = z by omega]; exact hT)
            have hnz : (nx : Int) + (z : Int) ≤ (s.size : Int) := by omega
            have hnz0 : (nx : Int) ≤ (nx : Int) + (z : Int) := by omega
            have hwn : IntKind.i64.wrap ((nx : Int) + (z : Int)) = (nx : Int) + (z : Int) := wrapk _ (by omega) (by omega)
            have HEa := Hid.of (show ∀ w, Calls Tryz.prog 85 #[.string s, .int .i64 ((nx : Int) + (z : Int))] w fun e w' => e = .returned (.int .i64 (eaN ds (nx + z))) ∧ Up w w' from fun w => by
              have h := RendAt_walk s (nx + z) (by omega) (by omega) w
              rw [HL.out] at h
              exact h)
            have htn : ((nx : Int) + (z : Int)).toNat = nx + z := by omega
            clear hT
            go_wp2_with (with_reducible show wpList _ _ _ ({ dst := _, op := Op.call { callee := Callee.builtin Builtin.append, args := _, argTypes := _ }, type := _, pos := _, after := _, guard := _ } :: _) _ _; refine Shut.out ?_)
            show wpList _ _ _ _ _ _
            refine wpList_appStr (w := w3) (N := w.heap.size) rfl _ _ rfl a6 c6 out (s.extract nx (nx + z)) T rfl rfl HX2.out HOl.out HO3.out HU3.out.size (by omega) ?_
            rw [hTl]
            intro ax2 cx2 w4 o4 u4
            have HU4 := Hid.of (u4 w HU3.out (Nat.le_refl _))
            have HO4 := Hid.of o4
            have HOl4 := Hid.of (show (out ++ T).length = m + z by rw [List.length_append, HOl.out, hTl])
            clear o4 u4 HX2 HU3 HO3
            simp only [Act.put, List.setIfInBounds_toArray, List.set_cons_zero, List.set_cons_succ]
            go_wp2_with fail
            refine (HEa.out _).mono ?_
            rintro e w5 ⟨rfl, h9⟩
            have HU5 := Hid.of (HU4.out.trans h9)
            have HO5 := Hid.of (ow_up HO4.out h9)
            clear h9 HEa HU4 HO4
            dsimp only
            have HV : Hid (eaN ds (nx + z) = match eat (ds.drop (nx + z)) with | .error e => if e = 2 then -2 else -1 | .ok j => ((nx + z + j : Nat) : Int)) := Hid.of rfl
            cases he : eat (ds.drop (nx + z)) with
            | error q =>
              rw [he] at HV HSt
              dsimp only at HV HSt
              rw [HV.out]
              rcases eat_er he with rfl | rfl
              · have HE := Hid.of HSt.out
                clear HSt HV he
                rw [if_pos rfl]
                go_wp2
                go_ret3
                rw [HE.out]
                exact ⟨rfl, HU5.out⟩
              · have HE := Hid.of HSt.out
                clear HSt HV he
                rw [if_neg (by decide)]
                go_wp2
                go_ret3
                rw [HE.out]
                exact ⟨rfl, HU5.out⟩
            | ok j =>
              have hj := eat_len he
              rw [List.length_drop, ← HZ.out] at hj
              rw [he] at HV HSt
              dsimp only at HV HSt
              rw [HV.out]
              clear HV he
              obtain ⟨k2, hk2⟩ : ∃ k2, nx + z + j = k2 := ⟨_, rfl⟩
              rw [hk2] at HSt ⊢
              have hk2s : k2 ≤ s.size := by omega
              have hkk : k < k2 := by omega
              have hk20 : ¬ (k2 : Int) < 0 := by omega
              have hk22 : ((k2 : Int) == -2) = false := by rw [beq_eq_false_iff_ne]; omega
              clear hk2 hj
              by_cases hz00 : z = 0
              · have hzz : ((z : Int) == 0) = true := by rw [hz00]; rfl
                have HE := Hid.of (show rv = .ok (out ++ T, k2) by rw [HSt.out, if_pos hz00])
                have HO6 := Hid.of (show Ow w5 w.heap.size (.slice ax2 (m + z) cx2) (out ++ T) from HO5.out)
                clear HSt hz00
                go_wp2
                go_ret3
                rw [HE.out]
                exact ⟨⟨_, rfl, HO6⟩, HU5.out⟩
              · have hzz : ((z : Int) == 0) = false := by rw [beq_eq_false_iff_ne]; omega
                have HE := Hid.of (show rv = uncA ds (out ++ T) k2 by rw [HSt.out, if_neg hz00])
                clear HSt
                go_wp2
                go_roundw
                all_goals first
                  | exact ⟨k2, m + z, ax2, cx2, rfl, rfl, hk2s, by omega, Hid.of ⟨out ++ T, HOl4.out, HO5.out, HU5.out, HE.out⟩⟩
                  | (simp [intOf]; omega)
end Go.Proofs.YtabpgpbcnadgcaaGreatDoor
namespace Go.Proofs.YtabpgpbcnadgcaaGreatDoor
open Go.RowKit Go.Shelf TextNum
/-- a list of one's own whose block may bear a mark behind its room (a text made to bytes) -/
def OwnM (w : World) (B : Nat) (v : Value) (l : List UInt8) : Prop := ∃ g cap cur fr, v = .slice (some ⟨g, 0, none⟩) l.length cap ∧ B ≤ g ∧ w.heap[g]? = some (.cells cur 5 fr) ∧ (fr.2 = 0 ∨ cap ≤ fr.1) ∧ l.length ≤ cap ∧ cap ≤ maxLen ∧ cur.size = cap ∧ cur.toList.take l.length = cb l
theorem OwnM.up {w w' : World} {B : Nat} {v : Value} {l : List UInt8} (h : OwnM w B v l) (k : Up w w') : OwnM w' B v l := by
  obtain ⟨g, cap, cur, fr, rfl, hB, hg, r⟩ := h
  refine ⟨g, cap, cur, fr, rfl, hB, ?_, r⟩
  rw [k.block g (Array.getElem?_eq_some_iff.1 hg).1]; exact hg
theorem OwnM.base {w : World} {B B' : Nat} {v : Value} {l : List UInt8} (h : OwnM w B v l) (hB : B' ≤ B) : OwnM w B' v l := by
  obtain ⟨g, cap, cur, fr, e, hb, r⟩ := h
  exact ⟨g, cap, cur, fr, e, Nat.le_trans hB hb, r⟩
theorem OwnM.cells {w : World} {B : Nat} {g cap : Nat} {l : List UInt8} (h : OwnM w B (.slice (some ⟨g, 0, none⟩) l.length cap) l) : g < w.heap.size ∧ ∀ j u, (cb l)[j]? = some u → w.cell? ⟨g, j, none⟩ = some u := by
  obtain ⟨g', cap', cur, fr, e, hB, hg, _, _, _, _, ht⟩ := h
  injection e with e1 _ _
  injection e1 with e1
  injection e1 with e1 _ _
  subst e1
  refine ⟨(Array.getElem?_eq_some_iff.1 hg).1, fun j u hu => ?_⟩
  rw [cell_of_row w g j cur _ fr hg]
  rw [← ht, List.getElem?_take] at hu
  split at hu
  · simpa using hu
  · cases hu
theorem run_storeCells_mk (P : Program) (g o : Nat) (t : TypeId) (fz : Nat × Nat) : ∀ (vs : List Value) (i : Nat) (cur : Array Value) (w : World), w.heap[g]? = some (.cells cur t fz) → (fz.2 = 0 ∨ cur.size ≤ fz.1) → o + i + vs.length ≤ cur.size → (∀ v ∈ vs, v.oneCell' = true) →
    (storeCells ⟨g, o, none⟩ vs i).run P w = .ok () (w.setRow g (cur.toList.take (o + i) ++ vs ++ cur.toList.drop (o + i + vs.length)).toArray)
  | [], i, cur, w, hg, _, _, _ => by
    simp only [storeCells, List.append_nil, List.length_nil, Nat.add_zero, List.take_append_drop, Array.toArray_toList]
    rw [setRow_self w g cur t fz hg]
    rfl
  | v :: rest, i, cur, w, hg, hfz, hl, h1 => by
    have hi : o + i < cur.size := by simp at hl; omega
    have hadd : (⟨g, o, none⟩ : Addr).add i = ⟨g, o + i, none⟩ := by unfold Addr.add; split <;> simp_all
    have hcell : w.cell? ⟨g, o + i, none⟩ = some cur[o + i] := by simp [World.cell?, hg, hi]
    have hfro : w.frozen? ⟨g, o + i, none⟩ = false := by
      obtain ⟨lo, hi'⟩ := fz
      simp only [World.frozen?, hg, Bool.and_eq_false_iff, decide_eq_false_iff_not]
      simp only at hfz
      omega
    have hst : (store ((⟨g, o, none⟩ : Addr).add i) v).run P w = .ok () (w.setRow g (cur.setIfInBounds (o + i) v)) := by
      rw [hadd, run_store P w _ v _ (h1 v (by simp)), hcell]
      simp [hfro, setCell_eq_setRow w g (o + i) cur t fz v hg]
    have ih := run_storeCells_mk P g o t fz rest (i + 1) (cur.setIfInBounds (o + i) v) (w.setRow g (cur.setIfInBounds (o + i) v)) (setRow_heap w g cur _ t _ hg) (by simpa using hfz) (by simp at hl ⊢; omega) (fun x hx => h1 x (by simp [hx]))
    simp only [storeCells, Sem.run_bind, hst, Result.andThen_ok, ih, setRow_setRow]
    congr 3
    have e := list_seg_step cur.toList (o + i) v rest (by simp at hl ⊢; omega)
    simpa [Array.toList_setIfInBounds, Nat.add_assoc] using e
theorem run_app_srcM {w : World} {B : Nat} {v : Value} {l : List UInt8} (xT : TypeId) (sv' : Value) (m : List UInt8) (ty : TypeId) (hk : Tryz.prog.underlying xT = some .string ∨ Tryz.prog.underlying xT = some (.slice 5)) (hs1 : Src Tryz.prog 1 xT sv' m.length (cb m) w) (hown : OwnM w B v l) (hn : l.length + m.length ≤ 140737488355328) (hB : B ≤ w.heap.size) :
    ∃ v' w', (Builtin.append_ #[22, xT] ty #[v, sv']).run Tryz.prog w = .ok v' w' ∧ OwnM w' B v' (l ++ m) ∧ Below B w w' := by
  obtain ⟨i, hi, hz, hsize, hby⟩ := info_parts Tryz.infoU8
  have ht : Tryz.prog.underlying 22 = some (.slice 5) := Tryz.underlying22
  have hs : Src Tryz.prog i.size xT sv' m.length (cb m) w := by rw [hsize]; exact hs1
  have hlen : (cb l ++ cb m).length = l.length + m.length := by simp [cb]
  have h0 := hown
  obtain ⟨g, cap, cur, fr, rfl, hbg, hg, hfr, hnc, hcm, hcs, htake⟩ := hown
  by_cases hroom : l.length + m.length ≤ cap
  · have hfit : l.length + (cb m).length ≤ cur.size := by rw [hcs, cb_length]; omega
    have hst := run_storeCells_mk Tryz.prog g (l.length * i.size) 5 fr (cb m) 0 cur w hg (by rw [hcs]; exact hfr) (by rw [hsize]; simpa using hfit) (cb_one m)
    simp only [Nat.add_zero] at hst
    have hr : (Builtin.append_ #[22, xT] ty #[.slice (some ⟨g, 0, none⟩) l.length cap, sv']).run Tryz.prog w =
        .ok (.slice (some ⟨g, 0, none⟩) (l.length + m.length) cap) (w.setRow g (cur.toList.take (l.length * i.size) ++ cb m ++ cur.toList.drop (l.length * i.size + (cb m).length)).toArray) := by
      rcases hk with hk | hk <;> simp [Builtin.append_, run_underlying ht, run_underlying hk, sizeOf, typeInfo, hi, hs.len, hroom, hs.cells, Addr.add_lit, hst]
    refine ⟨_, _, hr, ⟨g, cap, _, fr, by rw [List.length_append], hbg, setRow_heap w g cur _ 5 _ hg, hfr, by rw [List.length_append]; exact hroom, hcm, ?_, ?_⟩, ⟨rfl, rfl, rfl, by simp, fun k hk => setRow_other w g k _ (by omega)⟩⟩
    · simp only [List.size_toArray, List.length_append, List.length_take, List.length_drop, Array.length_toList, cb_length, hsize]
      omega
    · rw [hsize, Nat.mul_one, htake, cb_append, List.length_append, ← hlen]
      exact List.take_left
  · obtain ⟨_, holds⟩ := h0.cells
    have hold := run_firstCells_some (P := Tryz.prog) w.drew i.size l.length ⟨g, 0, none⟩ l.length cap (cb l) (by rw [hsize, cb_length, Nat.mul_one]) (fun j u hj => by rw [Addr.add_lit, Nat.zero_add]; exact (World.cell?_drew _ _).trans (holds j u hj))
    have hr := run_append_grow_src (P := Tryz.prog) w 22 xT ty 5 i _ ht hi hz (some ⟨g, 0, none⟩) l.length cap (cb l) hold _ m.length (cb m) hs (by omega) (by omega) (growslice_fits (by omega) (by rw [hby]; omega))
    have hge := grownCap_ge w (l.length + m.length) cap 5
    have hcm2 : grownCap w (l.length + m.length) cap 5 ≤ maxLen := grownCap_le_maxLen w _ cap _ (by unfold maxLen; omega)
    refine ⟨_, _, hr, ⟨w.heap.size, _, _, (0, 0), by rw [List.length_append], hB, heap_alloc_new w.drew _, .inl rfl, by rw [List.length_append]; exact hge, hcm2, ?_, ?_⟩, Below.alloc (Below.drew (Below.refl B w)) hB _⟩
    · simp only [Array.size_append, List.size_toArray, size_zeroCells, hlen]
      simp [Value.cells]
      omega
    · simp only [Array.toList_append, cb_append, List.length_append]
      rw [← hlen]
      exact List.take_left
theorem src_sb {w : World} {v : Value} {m : List UInt8} (h : Sb w v m) : Src Tryz.prog 1 22 v m.length (cb m) w := by
  obtain ⟨ay, cy, rfl, k1, k2, k3, k4⟩ := h
  cases ay with
  | none =>
    obtain ⟨rfl, rfl⟩ := k3 rfl
    exact Src.ofNil w Tryz.underlying22 0
  | some ad => exact Src.ofSlice w Tryz.underlying22 ad m.length cy (cb m) (by rw [cb_length, Nat.mul_one]) (k4 ad rfl).2 (cb_one m)
theorem src_str (w : World) (s : ByteArray) : Src Tryz.prog 1 9 (.string s) s.data.toList.length (cb s.data.toList) w := by
  have h := Src.ofString w Tryz.underlying9 s
  have e : byteCells s = cb s.data.toList := by simp [byteCells, cb]
  rw [e, Go.Lib.size_eq] at h
  exact h
theorem wpList_appM {ops : Array Oper} {rest : List Oper} {o : Oper} {a : Act} {w : World} {Q : Exit → Act → World → Prop} (hgd : o.guard = none) (s x : Operand) (xT : TypeId)
    (ho : o.op = .call { callee := .builtin .append, args := #[s, x], argTypes := #[22, xT] }) (B q : Nat) (ax : Option Addr) (cx : Nat) (vy : Value) (l m : List UInt8) (hs : a.eval s = .slice ax q cx) (hown : OwnM w B (.slice ax q cx) l) (hq : l.length = q)
    (hx : a.eval x = vy) (hk : Tryz.prog.underlying xT = some .string ∨ Tryz.prog.underlying xT = some (.slice 5)) (hS : Src Tryz.prog 1 xT vy m.length (cb m) w) (hn : l.length + m.length ≤ 140737488355328) (hB : B ≤ w.heap.size)
    (h : ∀ a2 c2 w', OwnM w' B (.slice a2 (q + m.length) c2) (l ++ m) → Below B w w' → wpList Tryz.prog ops Q rest (a.put o.dst (.slice a2 (q + m.length) c2)) w') : wpList Tryz.prog ops Q (o :: rest) a w := by
  subst hq
  refine wpList_plain hgd fun K hK => ?_
  obtain ⟨v', w', hr, h2, h3⟩ := run_app_srcM xT vy m o.type hk hS hown hn hB
  obtain ⟨a2, c2, rfl⟩ : ∃ a2 c2, v' = .slice a2 (l.length + m.length) c2 := by
    obtain ⟨g, cap, cur, fr, e, _⟩ := h2
    exact ⟨_, _, by rw [e, List.length_append]⟩
  unfold Oper.wp execOp
  simp only [ho, resolve, invoke, builtin, Sem.run_bind, Sem.run_pure, Result.andThen_ok, List.map_toArray, List.map_cons, List.map_nil, hs, hx, hr]
  exact hK _ _ (h a2 c2 w' h2 h3)
theorem OwnM.sb {w : World} {B : Nat} {v : Value} {l : List UInt8} (h : OwnM w B v l) : Sb w v l := by
  have h0 := h
  obtain ⟨g, cap, cur, fr, rfl, hB, hg, _, hc, hm, _⟩ := h
  obtain ⟨h1, h2⟩ := h0.cells
  exact ⟨_, cap, rfl, hc, hm, (fun e => by cases e), fun ad e => by
    obtain rfl := Option.some.inj e
    exact ⟨fun _ => rfl, fun j u hj => by rw [Addr.add_lit, Nat.zero_add]; exact h2 j u hj⟩⟩
theorem below_up {w w' : World} {B : Nat} (h : Below B w w') {W : World} (hu : Up W w) (hB : W.heap.size ≤ B) : Up W w' :=
  ⟨h.os.trans hu.os, h.tape.trans hu.tape, h.output.trans hu.output, Nat.le_trans hu.size h.size, fun j hj => (h.block j (by omega)).trans (hu.block j hj)⟩
/-- a text made to bytes -/
theorem conv_str (w : World) (t : ByteArray) (ht : t.size ≤ 140737488355328) : ∃ v w', (convert 9 22 (.string t)).run Tryz.prog w = .ok v w' ∧ OwnM w' w.heap.size v t.data.toList ∧ Up w w' := by
  have hge := grownCap_ge w t.size 0 5
  have hcm : grownCap w t.size 0 5 ≤ maxLen := grownCap_le_maxLen w _ 0 _ (by unfold maxLen; omega)
  have hc : (Go.Lib.bytesCells w 5 t).size = grownCap w t.size 0 5 := by
    simp only [Go.Lib.bytesCells, Array.size_append, Array.size_map, Array.size_replicate]
    have : t.data.size = t.size := rfl
    omega
  refine ⟨_, _, Go.Lib.run_convert_string_bytes (P := Tryz.prog) w 9 22 5 t Tryz.underlying9 Tryz.underlying22 Tryz.underlying5, ⟨w.heap.size, _, Go.Lib.bytesCells w 5 t, _, by rw [← Go.Lib.size_eq], Nat.le_refl _, Go.Lib.bytesWorld_at_new w 5 t, .inr (by rw [hc]; exact Nat.le_refl _), by rw [← Go.Lib.size_eq]; exact hge, hcm, hc, ?_⟩, ⟨rfl, rfl, rfl, by rw [Go.Lib.bytesWorld_size]; omega, fun j hj => Go.Lib.bytesWorld_at_old w 5 t j hj⟩⟩
  simp only [Go.Lib.bytesCells, Array.toList_append, Array.toList_map]
  have : (t.data.toList.map fun b => Value.int .u8 (b.toNat : Int)) = cb t.data.toList := rfl
  rw [this, show t.data.toList.length = (cb t.data.toList).length by rw [cb_length]]
  exact List.take_left
theorem wpList_conv {ops : Array Oper} {rest : List Oper} {o : Oper} {a : Act} {w : World} {Q : Exit → Act → World → Prop} (hgd : o.guard = none) (s : Operand)
    (ho : o.op = .convert 9 22 s) (t : ByteArray) (ht : t.size ≤ 140737488355328) (hs : a.eval s = .string t)
    (h : ∀ v' w', OwnM w' w.heap.size v' t.data.toList → Up w w' → wpList Tryz.prog ops Q rest (a.put o.dst v') w') : wpList Tryz.prog ops Q (o :: rest) a w := by
  refine wpList_plain hgd fun K hK => ?_
  obtain ⟨v', w', hr, h2, h3⟩ := conv_str w t ht
  unfold Oper.wp execOp
  simp only [ho, Sem.run_bind, Sem.run_pure, Result.andThen_ok, hs, hr]
  exact hK _ _ (h v' w' h2 h3)
theorem src_lnb (w : World) (f : FD) : Src Tryz.prog 1 9 (.string (f.n ++ (⟨#[58, 32]⟩ : ByteArray) ++ f.v ++ (⟨#[13, 10]⟩ : ByteArray))) (lnb f).length (cb (lnb f)) w := by
  have h := src_str w (f.n ++ (⟨#[58, 32]⟩ : ByteArray) ++ f.v ++ (⟨#[13, 10]⟩ : ByteArray))
  rw [bat_app, bat_app, bat_app] at h
  exact h
set_option maxRecDepth 100000 in
set_option maxHeartbeats 2000000 in
theorem Rlaid_walk (s : ByteArray) (a : Option Addr) (fs : List FD) (c : Nat) (vb' : Value) (bd : List UInt8) (w : World) (h : FdL w a fs c) (hb : Sb w vb' bd) (hs : s.size ≤ 1048576) (hl : szs fs ≤ 1048576) (hbl : bd.length ≤ 1048576) :
    Calls Tryz.prog 51 #[.string s, .slice a fs.length c, vb'] w fun e w' => (∃ a2 c2, e = .returned (.slice a2 (prt s.data.toList fs bd).length c2) ∧ Hid (Sb w' (.slice a2 (prt s.data.toList fs bd).length c2) (prt s.data.toList fs bd))) ∧ Up w w' := by
  have HF := Hid.of h
  have HB := Hid.of hb
  have hcap := h.cap
  have hsl := szs_len fs
  have HZs := Hid.of (fun i => szs_take fs i)
  obtain ⟨ab, nb, cb', rfl⟩ := Sb.shape hb
  have hsz := Go.Lib.size_eq s
  have HSz := Hid.of hsz
  clear h hb hsz
  obtain ⟨st2, hst2⟩ : ∃ st2, s.data.toList ++ [13, 10] = st2 := ⟨_, rfl⟩
  have HSt := Hid.of hst2
  have hstl : st2.length ≤ 1048578 := by rw [← hst2, List.length_append, ← HSz.out]; simp; omega
  have hl1 : ¬ 9223372036854775807 < s.size + 2 := by omega
  have HBt := Hid.of (show (s ++ (⟨#[13, 10]⟩ : ByteArray)).data.toList = st2 by rw [bat_app]; exact hst2)
  have HB2 := Hid.of (show (s ++ (⟨#[13, 10]⟩ : ByteArray)).size ≤ 140737488355328 by rw [Go.Lib.size_eq, HBt.out]; omega)
  clear hst2
  go_enter Tryz.func51, Tryz.ntmps51
  go_wp2_with (with_reducible show wpList _ _ _ ({ dst := _, op := Op.convert 9 22 _, type := _, pos := _, after := _, guard := _ } :: _) _ _; refine Shut.out ?_)
  show wpList _ _ _ _ _ _
  refine wpList_conv rfl _ rfl (s ++ ⟨#[13, 10]⟩) HB2.out rfl ?_
  intro v2 w2 o2 u2
  rw [HBt.out] at o2
  obtain ⟨a2, c2, rfl⟩ : ∃ a2 c2, v2 = .slice a2 st2.length c2 := by
    obtain ⟨g, cap, cur, fr, e, _⟩ := o2
    exact ⟨_, _, e⟩
  have HO2 := Hid.of o2
  have HU2 := Hid.of u2
  clear o2 u2 hl1
  simp only [Act.put, List.setIfInBounds_toArray, List.set_cons_zero, List.set_cons_succ]
  go_wp2
  go_loopw [7, 8] (fun v7 v8 wr => ∃ i : Nat, v8 = .int .i64 (i : Int) ∧ i ≤ fs.length ∧ ∃ q a7 c7, v7 = .slice a7 q c7 ∧ q ≤ 4194304 ∧ Hid (OwnM wr w.heap.size (.slice a7 q c7) (st2 ++ lbs (fs.take i)) ∧ Up w wr ∧ (st2 ++ lbs (fs.take i)).length = q)) (fun _ v8 _ => fs.length - (intOf v8).toNat)
  case atStart => exact ⟨0, rfl, Nat.zero_le _, st2.length, a2, c2, rfl, by omega, Hid.of ⟨by rw [List.take_zero]; show OwnM w2 w.heap.size _ (st2 ++ []); rw [List.append_nil]; exact HO2.out, HU2.out, by rw [List.take_zero]; show (st2 ++ []).length = _; rw [List.append_nil]⟩⟩
  case round =>
    obtain ⟨i, rfl, hi, q, a7, c7, rfl, hq, hU⟩ := hrel
    have HO := Hid.of hU.out.1
    have HU := Hid.of hU.out.2.1
    have HXq := Hid.of hU.out.2.2
    clear hU
    by_cases hil : i < fs.length
    · have hilz : (i : Int) < (fs.length : Int) := by omega
      obtain ⟨b, off, rfl, k1, k2⟩ := HF.out.cells i hil
      have HT := Hid.of (List.take_succ_eq_append_getElem hil)
      obtain ⟨f, hf⟩ : ∃ f, fs[i] = f := ⟨_, rfl⟩
      rw [hf] at k1 k2 HT
      have HK1 := Hid.of k1
      have HK2 := Hid.of k2
      have h5 := HZs.out (i + 1)
      rw [HT.out, szs_snoc] at h5
      have h6 := lbs_len (fs.take i)
      have h7 := HXq.out
      rw [List.length_append] at h7
      have HZf := Hid.of (show szf f = f.n.size + f.v.size + 4 from rfl)
      have h8 : szf f ≤ 1048576 := by omega
      have h9 : q + (lnb f).length ≤ 4194304 := by rw [lnb_len]; omega
      have hf1 : ¬ 9223372036854775807 < f.n.size + 2 := by have := HZf.out; omega
      have hf2 : ¬ 9223372036854775807 < f.n.size + 2 + f.v.size := by have := HZf.out; omega
      have hf3 : ¬ 9223372036854775807 < f.n.size + 2 + f.v.size + 2 := by have := HZf.out; omega
      obtain ⟨X, hX⟩ : ∃ X, st2 ++ lbs (fs.take i) = X := ⟨_, rfl⟩
      have HXe := Hid.of hX
      rw [hX] at HO HXq
      have HL8 := Hid.of (show (st2 ++ lbs (fs.take (i + 1))).length = q + (lnb f).length by rw [HT.out, lbs_snoc, ← List.append_assoc, hX, List.length_append, HXq.out])
      clear hf k1 k2 hX h5 h6 h7
      go_wp2
      refine wp_region_held_drew (S := fun w2 => Up w w2) (by kernel_rfl) HU.out.drew (fun hS => ?_)
      refine wpAnyH_take (i := 0) (oi := { dst := some 18, op := Go.Op.move (Go.Operand.tmp 7), type := 22, pos := "print.go:163", after := #[], guard := none }) (v := .slice a7 q c7) rfl (by kernel_rfl) (by kernel_rfl) (by kernel_rfl) (fun _ _ _ h => h) (Or.inl ⟨by kernel_rfl, ?_⟩) hS ?_
      · intro w5 hSw
        clear hSw hS
        go_simp
      simp only [Act.put, List.setIfInBounds_toArray, List.set_cons_zero, List.set_cons_succ]
      refine wpAnyH_take (i := 1) (oi := { dst := some 19, op := Go.Op.move (Go.Operand.tmp 1), type := 54, pos := "print.go:163", after := #[], guard := none }) (v := .slice (some ⟨b, off, none⟩) fs.length c) rfl (by kernel_rfl) (by kernel_rfl) (by kernel_rfl) (fun _ _ _ h => h) (Or.inl ⟨by kernel_rfl, ?_⟩) hS ?_
      · intro w5 hSw
        clear hSw hS
        go_simp
      simp only [Act.put, List.setIfInBounds_toArray, List.set_cons_zero, List.set_cons_succ]
      refine wpAnyH_take (i := 2) (oi := { dst := some 20, op := Go.Op.move (Go.Operand.tmp 8), type := 3, pos := "print.go:163", after := #[], guard := none }) (v := .int .i64 (i : Int)) rfl (by kernel_rfl) (by kernel_rfl) (by kernel_rfl) (fun _ _ _ h => h) (Or.inl ⟨by kernel_rfl, ?_⟩) hS ?_
      · intro w5 hSw
        clear hSw hS
        go_simp
      simp only [Act.put, List.setIfInBounds_toArray, List.set_cons_zero, List.set_cons_succ]
      refine wpAnyH_take (i := 3) (oi := { dst := some 21, op := Go.Op.indexAddr 54 (Go.Operand.tmp 19) (Go.Operand.tmp 20), type := 0, pos := "print.go:163", after := #[{ on := 1, ground := Go.Ground.data }, { on := 2, ground := Go.Ground.data }], guard := none }) (v := .pointer (some ⟨b, off + i * 2, none⟩)) rfl (by kernel_rfl) (by kernel_rfl) (by kernel_rfl) (fun _ _ _ h => h) (Or.inl ⟨by kernel_rfl, ?_⟩) hS ?_
      · intro w5 hSw
        clear hSw hS
        exact exec_idxRf i hil rfl rfl rfl
      simp only [Act.put, List.setIfInBounds_toArray, List.set_cons_zero, List.set_cons_succ]
      refine wpAnyH_take (i := 4) (oi := { dst := some 22, op := Go.Op.fieldAddr 102 (Go.Operand.tmp 21) 0, type := 0, pos := "print.go:163", after := #[{ on := 3, ground := Go.Ground.data }], guard := none }) (v := .pointer (some ⟨b, off + i * 2, none⟩)) rfl (by kernel_rfl) (by kernel_rfl) (by kernel_rfl) (fun _ _ _ h => h) (Or.inl ⟨by kernel_rfl, ?_⟩) hS ?_
      · intro w5 hSw
        clear hSw hS
        go_simp
      simp only [Act.put, List.setIfInBounds_toArray, List.set_cons_zero, List.set_cons_succ]
      refine wpAnyH_take (i := 5) (oi := { dst := some 23, op := Go.Op.load 9 (Go.Operand.tmp 22), type := 9, pos := "print.go:163", after := #[{ on := 4, ground := Go.Ground.data }], guard := none }) (v := .string f.n) rfl (by kernel_rfl) (by kernel_rfl) (by kernel_rfl) (fun _ _ _ h => h) (Or.inl ⟨by kernel_rfl, ?_⟩) hS ?_
      · intro w5 hSw
        have h0 := hSw.cell HK1.out
        clear hSw hS
        go_simp
      simp only [Act.put, List.setIfInBounds_toArray, List.set_cons_zero, List.set_cons_succ]
      refine wpAnyH_take (i := 6) (oi := { dst := some 24, op := Go.Op.binOp Go.BinOp.add 9 (Go.Operand.tmp 23) (Go.Operand.const (Go.Value.string { data := #[58, 32] })) 9, type := 9, pos := "print.go:163", after := #[{ on := 5, ground := Go.Ground.data }], guard := none }) (v := .string (f.n ++ (⟨#[58, 32]⟩ : ByteArray))) rfl (by kernel_rfl) (by kernel_rfl) (by kernel_rfl) (fun _ _ _ h => h) (Or.inl ⟨by kernel_rfl, ?_⟩) hS ?_
      · intro w5 hSw
        clear hSw hS
        go_simp
      simp only [Act.put, List.setIfInBounds_toArray, List.set_cons_zero, List.set_cons_succ]
      refine wpAnyH_take (i := 7) (oi := { dst := some 25, op := Go.Op.move (Go.Operand.tmp 1), type := 54, pos := "print.go:163", after := #[], guard := none }) (v := .slice (some ⟨b, off, none⟩) fs.length c) rfl (by kernel_rfl) (by kernel_rfl) (by kernel_rfl) (fun _ _ _ h => h) (Or.inl ⟨by kernel_rfl, ?_⟩) hS ?_
      · intro w5 hSw
        clear hSw hS
        go_simp
      simp only [Act.put, List.setIfInBounds_toArray, List.set_cons_zero, List.set_cons_succ]
      refine wpAnyH_take (i := 8) (oi := { dst := some 26, op := Go.Op.move (Go.Operand.tmp 8), type := 3, pos := "print.go:163", after := #[], guard := none }) (v := .int .i64 (i : Int)) rfl (by kernel_rfl) (by kernel_rfl) (by kernel_rfl) (fun _ _ _ h => h) (Or.inl ⟨by kernel_rfl, ?_⟩) hS ?_
      · intro w5 hSw
        clear hSw hS
        go_simp
      simp only [Act.put, List.setIfInBounds_toArray, List.set_cons_zero, List.set_cons_succ]
      refine wpAnyH_take (i := 9) (oi := { dst := some 27, op := Go.Op.indexAddr 54 (Go.Operand.tmp 25) (Go.Operand.tmp 26), type := 0, pos := "print.go:163", after := #[{ on := 7, ground := Go.Ground.data }, { on := 8, ground := Go.Ground.data }], guard := none }) (v := .pointer (some ⟨b, off + i * 2, none⟩)) rfl (by kernel_rfl) (by kernel_rfl) (by kernel_rfl) (fun _ _ _ h => h) (Or.inl ⟨by kernel_rfl, ?_⟩) hS ?_
      · intro w5 hSw
        clear hSw hS
        exact exec_idxRf i hil rfl rfl rfl
      simp only [Act.put, List.setIfInBounds_toArray, List.set_cons_zero, List.set_cons_succ]
      refine wpAnyH_take (i := 10) (oi := { dst := some 28, op := Go.Op.fieldAddr 102 (Go.Operand.tmp 27) 1, type := 0, pos := "print.go:163", after := #[{ on := 9, ground := Go.Ground.data }], guard := none }) (v := .pointer (some ⟨b, off + i * 2 + 1, none⟩)) rfl (by kernel_rfl) (by kernel_rfl) (by kernel_rfl) (fun _ _ _ h => h) (Or.inl ⟨by kernel_rfl, ?_⟩) hS ?_
      · intro w5 hSw
        clear hSw hS
        go_simp
      simp only [Act.put, List.setIfInBounds_toArray, List.set_cons_zero, List.set_cons_succ]
      refine wpAnyH_take (i := 11) (oi := { dst := some 29, op := Go.Op.load 9 (Go.Operand.tmp 28), type := 9, pos := "print.go:163", after := #[{ on := 10, ground := Go.Ground.data }], guard := none }) (v := .string f.v) rfl (by kernel_rfl) (by kernel_rfl) (by kernel_rfl) (fun _ _ _ h => h) (Or.inl ⟨by kernel_rfl, ?_⟩) hS ?_
      · intro w5 hSw
        have h0 := hSw.cell HK2.out
        clear hSw hS
        go_simp
      simp only [Act.put, List.setIfInBounds_toArray, List.set_cons_zero, List.set_cons_succ]
      refine wpAnyH_take (i := 12) (oi := { dst := some 30, op := Go.Op.binOp Go.BinOp.add 9 (Go.Operand.tmp 24) (Go.Operand.tmp 29) 9, type := 9, pos := "print.go:163", after := #[{ on := 6, ground := Go.Ground.data }, { on := 11, ground := Go.Ground.data }], guard := none }) (v := .string (f.n ++ (⟨#[58, 32]⟩ : ByteArray) ++ f.v)) rfl (by kernel_rfl) (by kernel_rfl) (by kernel_rfl) (fun _ _ _ h => h) (Or.inl ⟨by kernel_rfl, ?_⟩) hS ?_
      · intro w5 hSw
        clear hSw hS
        go_simp
      simp only [Act.put, List.setIfInBounds_toArray, List.set_cons_zero, List.set_cons_succ]
      refine wpAnyH_take (i := 13) (oi := { dst := some 31, op := Go.Op.binOp Go.BinOp.add 9 (Go.Operand.tmp 30) (Go.Operand.const (Go.Value.string { data := #[13, 10] })) 9, type := 9, pos := "print.go:163", after := #[{ on := 12, ground := Go.Ground.data }], guard := none }) (v := .string (f.n ++ (⟨#[58, 32]⟩ : ByteArray) ++ f.v ++ (⟨#[13, 10]⟩ : ByteArray))) rfl (by kernel_rfl) (by kernel_rfl) (by kernel_rfl) (fun _ _ _ h => h) (Or.inl ⟨by kernel_rfl, ?_⟩) hS ?_
      · intro w5 hSw
        clear hSw hS
        go_simp
      simp only [Act.put, List.setIfInBounds_toArray, List.set_cons_zero, List.set_cons_succ]
      refine wpAnyH_ready (rs := [14]) (by kernel_rfl) (by simp) ?_
      refine AllReadyH.cons (o := { dst := some 32, op := Go.Op.call { callee := Go.Callee.builtin Go.Builtin.append, args := #[Go.Operand.tmp 18, Go.Operand.tmp 31], argTypes := #[22, 9] }, type := 22, pos := "print.go:163", after := #[{ on := 0, ground := Go.Ground.data }, { on := 13, ground := Go.Ground.data }], guard := none }) rfl (fun K hK => oper_of_list ?_) AllReadyH.nil
      refine wpList_appM (w := wr.drew) rfl _ _ 9 rfl w.heap.size q a7 c7 _ X (lnb f) rfl (HO.out.up (Up.refl _).drew) HXq.out rfl (.inl Tryz.underlying9) (src_lnb _ f) (by rw [HXq.out, lnb_len]; have := HZf.out; omega) HU.out.drew.size ?_
      intro a8 c8 w8 o8 b8
      have HU8 := Hid.of (below_up b8 HU.out.drew (Nat.le_refl _))
      have HO8 := Hid.of (show OwnM w8 w.heap.size (.slice a8 (q + (lnb f).length) c8) (st2 ++ lbs (fs.take (i + 1))) by rw [HT.out, lbs_snoc, ← List.append_assoc, HXe.out]; exact o8)
      clear o8 b8
      refine hK.out _ _ HU8.out (fun hS => ?_)
      clear hK K
      simp only [Act.put, List.setIfInBounds_toArray, List.set_cons_zero, List.set_cons_succ]
      refine wpAnyH_take (i := 15) (oi := { dst := some 7, op := Go.Op.assign (Go.Operand.tmp 32), type := 22, pos := "print.go:163", after := #[{ on := 14, ground := Go.Ground.data }, { on := 14, ground := Go.Ground.chain }, { on := 0, ground := Go.Ground.phase }, { on := 1, ground := Go.Ground.phase }, { on := 2, ground := Go.Ground.phase }, { on := 3, ground := Go.Ground.phase }, { on := 4, ground := Go.Ground.phase }, { on := 5, ground := Go.Ground.phase }, { on := 6, ground := Go.Ground.phase }, { on := 7, ground := Go.Ground.phase }, { on := 8, ground := Go.Ground.phase }, { on := 9, ground := Go.Ground.phase }, { on := 10, ground := Go.Ground.phase }, { on := 11, ground := Go.Ground.phase }, { on := 12, ground := Go.Ground.phase }, { on := 13, ground := Go.Ground.phase }, { on := 14, ground := Go.Ground.phase }], guard := none }) (v := .slice a8 (q + (lnb f).length) c8) rfl (by kernel_rfl) (by kernel_rfl) (by kernel_rfl) (fun _ _ _ h => h) (Or.inl ⟨by kernel_rfl, ?_⟩) hS ?_
      · intro w5 hSw
        clear hSw hS
        go_simp
      simp only [Act.put, List.setIfInBounds_toArray, List.set_cons_zero, List.set_cons_succ]
      clear hS
      refine wpAnyH_done (by kernel_rfl) ?_ _
      go_wp2
      go_roundw
      all_goals first
        | exact ⟨i + 1, by go_num, by omega, q + (lnb f).length, a8, c8, rfl, h9, Hid.of ⟨HO8.out, HU8.out, HL8.out⟩⟩
        | (simp [intOf]; omega)
    · have hilz : ¬ (i : Int) < (fs.length : Int) := by omega
      obtain ⟨X, hX⟩ : ∃ X, st2 ++ lbs (fs.take i) = X := ⟨_, rfl⟩
      have HXe := Hid.of (show X ++ [13, 10] ++ bd = prt s.data.toList fs bd by rw [← hX, List.take_of_length_le (by omega), ← HSt.out]; rfl)
      rw [hX] at HO HXq
      clear hX
      go_wp2_with (with_reducible show wpList _ _ _ ({ dst := _, op := Op.call { callee := Callee.builtin Builtin.append, args := _, argTypes := _ }, type := _, pos := _, after := _, guard := _ } :: _) _ _; refine Shut.out ?_)
      show wpList _ _ _ _ _ _
      refine wpList_appM rfl _ _ 9 rfl w.heap.size q a7 c7 _ X [13, 10] rfl HO.out HXq.out rfl (.inl Tryz.underlying9) (src_str wr ⟨#[13, 10]⟩) (by rw [HXq.out]; simp only [List.length_cons, List.length_nil]; omega) HU.out.size ?_
      intro a8 c8 w8 o8 b8
      have HU8 := Hid.of (below_up b8 HU.out (Nat.le_refl _))
      have HO8 := Hid.of o8
      clear o8 b8
      simp only [Act.put, List.setIfInBounds_toArray, List.set_cons_zero, List.set_cons_succ]
      go_wp2_with (with_reducible show wpList _ _ _ ({ dst := _, op := Op.call { callee := Callee.builtin Builtin.append, args := _, argTypes := _ }, type := _, pos := _, after := _, guard := _ } :: _) _ _; refine Shut.out ?_)
      show wpList _ _ _ _ _ _
      refine wpList_appM rfl _ _ 22 rfl w.heap.size _ a8 c8 _ (X ++ [13, 10]) bd rfl HO8.out (by rw [List.length_append, HXq.out]) rfl (.inr Tryz.underlying22) (src_sb (HB.out.up HU8.out)) (by rw [List.length_append, HXq.out]; simp only [List.length_cons, List.length_nil]; omega) HU8.out.size ?_
      intro a9 c9 w9 o9 b9
      have HU9 := Hid.of (below_up b9 HU8.out (Nat.le_refl _))
      have hll : q + ([13, 10] : List UInt8).length + bd.length = (prt s.data.toList fs bd).length := by rw [← HXe.out, List.length_append, List.length_append, HXq.out]
      rw [HXe.out, hll] at o9
      rw [hll]
      have HO9 := Hid.of o9.sb
      clear o9 b9 hll
      simp only [Act.put, List.setIfInBounds_toArray, List.set_cons_zero, List.set_cons_succ]
      go_wp2
      go_ret
      exact ⟨⟨a9, c9, rfl, HO9⟩, HU9.out⟩
end Go.Proofs.YtabpgpbcnadgcaaGreatDoor
namespace Go.Proofs.YtabpgpbcnadgcaaGreatDoor
open Go.RowKit Go.Shelf TextNum
/-- rule 10, by the number that rule 9 gives -/
def bdy (n : Int) (l : List UInt8) : Er (List UInt8 × Nat) := if n = -2 then (match unk l with
    | .error k => .error (if k = 1 then 19 else k)
    | .ok p => .ok p) else if l.length < n.toNat then .error 2 else .ok (l.take n.toNat, n.toNat)
/-- memory of one's own -/
def Fsh (N : Nat) (v : Value) : Prop := ∀ g, v.ownBlock = some g → N ≤ g
theorem OwnM.fsh {w : World} {B : Nat} {v : Value} {l : List UInt8} (h : OwnM w B v l) : Fsh B v := by
  obtain ⟨g, cap, cur, fr, rfl, hB, _⟩ := h
  intro g' hg
  have e : (Value.slice (some ⟨g, 0, none⟩) l.length cap).ownBlock = some g := rfl
  rw [e] at hg
  injection hg with hg
  omega
theorem bdy_len {n : Int} {l b : List UInt8} {j : Nat} (h : bdy n l = .ok (b, j)) : j ≤ l.length := by
  unfold bdy at h
  split at h
  · cases hu : unk l with
    | error q => rw [hu] at h; cases h
    | ok p =>
      obtain ⟨b', j'⟩ := p
      rw [hu] at h
      injection h with h
      injection h with _ h
      subst h
      exact (unk_len hu).1
  · split at h
    · cases h
    · injection h with h
      injection h with _ h
      omega
def BoR (w w' : World) (e : Ending) : Er (List UInt8 × Nat) → Prop
  | .error k => e = .returned (.tuple #[.slice none 0 0, .int .i64 0, .int .i64 (numK k)])
  | .ok (b, n) => ∃ v, e = .returned (.tuple #[v, .int .i64 (n : Int), .int .i64 0]) ∧ Hid (Sb w' v b ∧ Fsh w.heap.size v)
set_option maxRecDepth 100000 in
set_option maxHeartbeats 2000000 in
theorem Rbody_chunks (s : ByteArray) (hs : s.size ≤ 1099511627000) (w : World) : Calls Tryz.prog 78 #[.string s, .int .i64 (-2)] w fun e w' => BoR w w' e (bdy (-2) s.data.toList) ∧ Up w w' := by
  have HZ := Hid.of (Go.Lib.size_eq s)
  obtain ⟨rv, hrv⟩ : ∃ rv, bdy (-2) s.data.toList = rv := ⟨_, rfl⟩
  have HR := Hid.of (show rv = match unk s.data.toList with
    | .error k => .error (if k = 1 then 19 else k)
    | .ok p => .ok p from hrv.symm)
  rw [hrv]
  clear hrv
  go_enter Tryz.func78, Tryz.ntmps78
  go_wp2_with (with_reducible show wpList _ _ _ ({ dst := _, op := Op.convert 9 22 _, type := _, pos := _, after := _, guard := _ } :: _) _ _; refine Shut.out ?_)
  show wpList _ _ _ _ _ _
  refine wpList_conv rfl _ rfl s (by omega) rfl ?_
  intro v1 w1 hO1 hU1
  obtain ⟨g, cap, cur, fr, rfl, _⟩ := id hO1
  have HU1 := Hid.of hU1
  have HC := Hid.of (RUnchunk_walk (by rw [← HZ.out]; exact hs) w1 hO1.sb)
  clear hO1 hU1
  simp only [Act.put, List.setIfInBounds_toArray, List.set_cons_zero, List.set_cons_succ]
  go_wp2_with fail
  refine HC.out.mono ?_
  rintro e w2 ⟨hR2, h9⟩
  have HU2 := Hid.of (HU1.out.trans h9)
  clear h9 HC
  cases hu : unk s.data.toList with
  | error k =>
    rw [hu] at hR2 HR
    obtain rfl : e = _ := hR2
    dsimp only at HR ⊢
    rcases unk_er hu with rfl | rfl | rfl | rfl
    all_goals
      clear hu
      go_wp2
      go_ret3
      rw [HR.out]
      exact ⟨rfl, HU2.out⟩
  | ok p =>
    obtain ⟨b, n⟩ := p
    rw [hu] at hR2 HR
    obtain ⟨v, rfl, hO⟩ := hR2
    have HO := Hid.of (show Sb w2 v b ∧ Fsh w.heap.size v from ⟨hO.out.sb, fun g hg => Nat.le_trans HU1.out.size (World.ownsRow.lt hO.out g hg).1⟩)
    clear hu hO
    dsimp only at HR ⊢
    go_wp2
    go_ret3
    rw [HR.out]
    exact ⟨⟨v, rfl, HO⟩, HU2.out⟩
set_option maxRecDepth 100000 in
set_option maxHeartbeats 2000000 in
theorem Rbody_some (s : ByteArray) (n : Nat) (hn : n ≤ 1099511627000) (w : World) : Calls Tryz.prog 78 #[.string s, .int .i64 (n : Int)] w fun e w' => BoR w w' e (bdy (n : Int) s.data.toList) ∧ Up w w' := by
  have HZ := Hid.of (Go.Lib.size_eq s)
  obtain ⟨rv, hrv⟩ : ∃ rv, bdy (n : Int) s.data.toList = rv := ⟨_, rfl⟩
  have HR := Hid.of (show rv = if s.size < n then .error 2 else .ok (s.data.toList.take n, n) by
    rw [← hrv, HZ.out]
    unfold bdy
    rw [if_neg (by omega), Int.toNat_natCast])
  rw [hrv]
  clear hrv
  have hn2 : ((n : Int) == -2) = false := by rw [beq_eq_false_iff_ne]; omega
  by_cases hlt : s.size < n
  · have hz : (s.size : Int) < (n : Int) := by omega
    rw [if_pos hlt] at HR
    go_enter Tryz.func78, Tryz.ntmps78
    go_wp2
    go_ret3
    rw [HR.out]
    exact ⟨rfl, Up.refl _⟩
  · have hz : ¬ (s.size : Int) < (n : Int) := by omega
    rw [if_neg hlt] at HR
    have hz2 : (n : Int) ≤ (s.size : Int) := by omega
    have HX := Hid.of (Go.Lib.extract_from_zero s n)
    have hXz : (s.extract 0 n).size ≤ 140737488355328 := by rw [ByteArray.size_extract]; omega
    go_enter Tryz.func78, Tryz.ntmps78
    go_wp2_with (with_reducible show wpList _ _ _ ({ dst := _, op := Op.convert 9 22 _, type := _, pos := _, after := _, guard := _ } :: _) _ _; refine Shut.out ?_)
    show wpList _ _ _ _ _ _
    refine wpList_conv rfl _ rfl (s.extract 0 n) hXz rfl ?_
    intro v1 w1 hO1 hU1
    have HU1 := Hid.of hU1
    have HS1 := Hid.of (show Sb w1 v1 (s.data.toList.take n) ∧ Fsh w.heap.size v1 from ⟨by rw [← HX.out]; exact hO1.sb, hO1.fsh⟩)
    clear hO1 hU1
    simp only [Act.put, List.setIfInBounds_toArray, List.set_cons_zero, List.set_cons_succ]
    go_wp2
    go_ret3
    rw [HR.out]
    exact ⟨⟨v1, rfl, HS1⟩, HU1.out⟩
end Go.Proofs.YtabpgpbcnadgcaaGreatDoor
