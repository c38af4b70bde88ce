import Derived.Test.YtaobnnlcfefodaaDoorWe
namespace Go.Proofs.YtaobnnlcfefodaaDoor
open Go.RowKit TextNum
set_option maxRecDepth 100000 in
theorem wnum_walk (z : Int) (w : World) : Calls Tryd.prog 5 #[.int .i64 z] w fun e w' => e = .returned (.int .i64 z) ∧ w' = w := by
  go_enter Tryd.func5, Tryd.ntmps5
  go_wp2
  go_ret
  exact ⟨rfl, rfl⟩
theorem infoA32 : (Tryd.prog.info? 29).map (·.size) = some 32 := by kernel_rfl
set_option maxRecDepth 100000 in
set_option maxHeartbeats 4000000 in
/-- the law's hashes: a copy -/
theorem hashes_walk (v : Value) (hs : List (List UInt8)) (w : World) (hP : HL w v hs) (hl : hs.length * 32 ≤ 140737488355328) : Calls Tryd.prog 6 #[v] w fun e w' => ∃ u, e = .returned u ∧ HO w' w.heap.size u hs ∧ Up w w' := by
  obtain ⟨ih, iha, ihb, ihc, ihd⟩ := info_parts infoHash
  obtain ⟨pa, pc, rfl, hpc, hpx⟩ := hP
  have HPX := Hid.of hpx
  obtain ⟨n, hn⟩ : ∃ n, hs.length = n := ⟨_, rfl⟩
  have HN := Hid.of (And.intro hn trivial)
  rw [hn] at hpc hl ⊢
  clear hpx hn
  go_enter Tryd.func6, Tryd.ntmps6
  go_wp2
  go_loopw [3, 4] (fun v3 v4 wr => ∃ i : Nat, v4 = .int .i64 (i : Int) ∧ i ≤ n ∧ Hid (HO wr w.heap.size v3 (hs.take i) ∧ Up w wr)) (fun _ v4 _ => n - (intOf v4).toNat)
  case atStart => exact ⟨0, rfl, by omega, Hid.of ⟨World.ownsRow_nil _ _ _ _, Up.refl _⟩⟩
  case round =>
    obtain ⟨i, rfl, hi, HK⟩ := hrel
    by_cases hlt : i < n
    · have hltz : (i : Int) < (n : Int) := by omega
      have hpcz : (n : Int) ≤ (pc : Int) := by omega
      have hiw : IntKind.i64.wrap ((i : Int) + 1) = (i : Int) + 1 := by rw [IntKind.wrap_i64]; omega
      have hil : i < hs.length := by rw [HN.out.1]; exact hlt
      obtain ⟨hx32, b, off, rfl, hbl, hrg⟩ := HPX.out i hil
      obtain ⟨x, hx⟩ : ∃ x, hs[i] = x := ⟨_, rfl⟩
      rw [hx] at hx32 hrg
      have HX := Hid.of (And.intro (show hs.take (i + 1) = hs.take i ++ [x] by rw [List.take_succ_eq_append_getElem hil, hx]) (show (hs.take i).length = i by rw [List.length_take]; omega))
      have hcl : (cb x).length = 32 := by rw [cb_length]; exact hx32
      have HRG := Hid.of (range_upW hrg HK.out.2)
      clear hx hrg
      go_wp2_with (with_reducible show wpList _ _ _ ({ dst := _, op := Op.load 29 _, type := _, pos := _, after := _, guard := _ } :: _) _ _; refine Shut.out ?_)
      show wpList _ _ _ _ _ _
      refine wpList_load_mid rfl _ _ rfl b (off + i * 32) rfl (cb x) _ HRG.out Tryd.underlying29 rfl (by rw [hcl]; exact infoA32) ?_
      simp only [Act.put, List.setIfInBounds_toArray, List.set_cons_zero, List.set_cons_succ]
      refine wpList_buildHs rfl _ rfl hx32 (by simp only [List.map_toArray, List.map_cons, List.map_nil]; rfl) ?_
      simp only [Act.put, List.setIfInBounds_toArray, List.set_cons_zero, List.set_cons_succ]
      have HU6 := Hid.of ((Up.refl wr).alloc (.cells (cb x).toArray 30))
      have HA6 := Hid.of (fun (j : Nat) (u : Value) (hu : (cb x)[j]? = some u) => show (wr.alloc (.cells (cb x).toArray 30)).cell? ((⟨wr.heap.size, 0, none⟩ : Addr).add j) = some u by
        rw [add_plain, World.cell?_alloc_at _ _ _ _ rfl, Nat.zero_add]
        simpa using hu)
      have hO := HK.out.1.up HU6.out
      unfold HO at hO
      rw [HX.out.2] at hO
      refine wpList_append_own _ rfl _ _ 31 rfl w.heap.size 30 ih (.agg (cb zH).toArray) 32 32 Tryd.underlying31 iha ihb ihc ihd rfl (by decide) u3 i ((hs.take i).flatMap cb) rfl hO ⟨wr.heap.size, 0, none⟩ 1 1 (cb x) rfl (by rw [hcl]) (fun j u hu => HA6.out j u hu) (fun u hu => cb_one x u hu) (by simp only [maxLen]; omega) (by omega) (HK.out.2.trans HU6.out).size ?_
      intro v7 w7 o7 g7 _
      simp only [Act.put, List.setIfInBounds_toArray, List.set_cons_zero, List.set_cons_succ]
      have HNX := Hid.of (show HO w7 w.heap.size v7 (hs.take (i + 1)) ∧ Up w w7 from ⟨by
        unfold HO
        rw [HX.out.1, flatB_snoc, List.length_append, HX.out.2]
        exact o7, (HK.out.2.trans HU6.out).by' g7 (fun g hg => (World.ownsRow.lt hO g hg).1)⟩)
      clear o7 g7 hO HU6 HA6 HRG HX HK
      go_wp2
      go_roundw
      case rel => exact ⟨i + 1, by go_num, by omega, HNX⟩
      case measure => simp [intOf]; omega
    · have hltz : ¬ (i : Int) < (n : Int) := by omega
      obtain rfl : i = n := by omega
      have HZ := Hid.of (show hs.take i = hs by rw [← HN.out.1, List.take_length])
      go_wp2
      go_ret
      exact ⟨_, rfl, by rw [← HZ.out]; exact HK.out.1, HK.out.2⟩
/-- the small note at the law's head -/
def smN : List UInt8 := [97, 10, 10, 226, 128, 148, 32, 97, 32, 65, 65, 65, 65, 66, 51, 103, 61, 10]
theorem sm_fmt : fmtN (⟨#[97, 10]⟩ : ByteArray).data.toList [⟨⟨#[97]⟩, 7, [120]⟩] = smN := by decide
theorem sm_note : isNt smN := by
  have h := split_fmt (t := ⟨#[97, 10]⟩) (ss := [⟨⟨#[97]⟩, 7, [120]⟩]) (by unfold Lng; decide) ⟨⟨by decide, by decide⟩, by simp, fun s hs => by
    obtain rfl := List.mem_singleton.1 hs
    exact ⟨by decide, by simp⟩⟩ (fun s hs => by
    obtain rfl := List.mem_singleton.1 hs
    decide)
  rw [sm_fmt] at h
  exact nt_iff.2 ⟨h.2, _, _, h.1⟩
def smA : List UInt8 := fmA 7 [zH] smN
theorem sm_ask : VA 7 [zH] smN := ⟨by decide, by decide, by decide, fun h hh => by rw [List.mem_singleton.1 hh]; rfl, sm_note⟩
end Go.Proofs.YtaobnnlcfefodaaDoor
