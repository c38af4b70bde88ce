import Derived.Test.YtaibjeehjhlicaaDoorYbk
namespace Go.Proofs.YtaibjeehjhlicaaDoor
open Go.RowKit Go.Shelf TextNum ModNum
def two (k : Nat) : List GF := [⟨⟨#[98]⟩, .slice (some ⟨k, 0, none⟩) 1 1, [1]⟩, ⟨⟨#[97]⟩, .slice (some ⟨k + 1, 0, none⟩) 1 1, [2]⟩]
theorem two_lie (w : World) : FsL (((w.alloc (.cells #[.int .u8 1] 5)).alloc (.cells #[.int .u8 2] 5)).alloc (.cells #[.string ⟨#[98]⟩, .slice (some ⟨w.heap.size, 0, none⟩) 1 1, .string ⟨#[97]⟩, .slice (some ⟨w.heap.size + 1, 0, none⟩) 1 1] 29)) (some ⟨w.heap.size + 1 + 1, 0, none⟩) (two w.heap.size) 2 := by
  have h0 := at_new w 5 [.int .u8 1]
  have h1 := at_new (w.alloc (.cells #[.int .u8 1] 5)) 5 [.int .u8 2]
  rw [alloc_size] at h1
  have h2 := at_new ((w.alloc (.cells #[.int .u8 1] 5)).alloc (.cells #[.int .u8 2] 5)) 29 [.string ⟨#[98]⟩, .slice (some ⟨w.heap.size, 0, none⟩) 1 1, .string ⟨#[97]⟩, .slice (some ⟨w.heap.size + 1, 0, none⟩) 1 1]
  rw [alloc_size, alloc_size] at h2
  have s0 : Sb _ (.slice (some ⟨w.heap.size, 0, none⟩) 1 1) [1] := sb_at (ds := [1]) h0 (by simp only [maxLen]; decide)
  have s1 : Sb _ (.slice (some ⟨w.heap.size + 1, 0, none⟩) 1 1) [2] := sb_at (ds := [2]) h1 (by simp only [maxLen]; decide)
  refine ⟨Nat.le_refl _, fun i hi => ?_, fun g hg => ?_⟩
  · match i, hi with
    | 0, _ => exact ⟨_, 0, rfl, h2.cell (i := 0) rfl, h2.cell (i := 1) rfl⟩
    | 1, _ => exact ⟨_, 0, rfl, h2.cell (i := 2) rfl, h2.cell (i := 3) rfl⟩
  · rcases List.mem_cons.1 hg with rfl | hg
    · exact (s0.up ((Up.refl _).alloc _)).up ((Up.refl _).alloc _)
    · obtain rfl := List.mem_singleton.1 hg
      exact s1.up ((Up.refl _).alloc _)
theorem two_ld (k : Nat) : ldE 2 (two k) = 0 := by
  unfold ldE
  rw [if_neg (by omega), if_neg, if_neg, if_neg]
  · exact fun h => h (by show ((([1, 1] : List Nat).sum : Nat) : Int) ≤ 2; decide)
  · exact fun h => h (by show ([[98], [97]] : List (List UInt8)).Nodup; decide)
  · refine fun h => h (fun g hg => ?_)
    rcases List.mem_cons.1 hg with rfl | hg
    · show isNm [98] = true
      decide +kernel
    · obtain rfl := List.mem_singleton.1 hg
      show isNm [97] = true
      decide +kernel
theorem Lent.fsl {w : World} {N c n cw m : Nat} {a aw : Option Addr} {fs : List GF} {vs : List Value} {k : Nat} (h : Lent w N a c n fs k aw cw m vs) (hk : 0 < k) : FsL w a fs c ∧ n + k ≤ c := by
  have hn : (fs ++ List.replicate k hsh).length = n + k := by rw [List.length_append, List.length_replicate, h.fl]
  have h5 := h.out.row
  rw [hn] at h5
  have hc : n + k ≤ c := by
    rcases h5.2 with ⟨_, h0⟩ | ⟨g, cap, cur, e, _, _, hnc, _⟩
    · omega
    · injection e with _ _ e3
      omega
  refine ⟨⟨by rw [h.fl]; omega, fun i hi => ?_, fun g hg => (h.out.dat g (List.mem_append_left _ hg)).sb⟩, hc⟩
  obtain ⟨ga, e, _, k1, k2, _⟩ := h.out.some (i := i) (by rw [List.length_append]; omega)
  rw [List.getElem_append_left hi] at k1 k2
  exact ⟨ga, 0, e, by rw [Nat.zero_add]; exact k1, by rw [Nat.zero_add]; exact k2⟩
theorem srt_two : srt [[98], [97]] = [[97], [98]] := by
  unfold srt
  first
    | (simp [List.mergeSort, List.MergeSort.Internal.splitInTwo, List.merge]; decide)
/-- what Load leaves of files that it takes -/
theorem Laid.hasf {W w : World} {D room : Nat} {fs : List GF} {s : DD} (h : Laid W w D room fs s) {i : Nat} (hi : i < fs.length) : ∃ f, (fs[i].nm.data.toList, f) ∈ s.nf ∧ f.nb = fs[i].ds := by
  have h1 : s.nf.map (fun p => (p.1, p.2.nb)) = fs.map pr := h.ld
  have h2 : pr fs[i] ∈ s.nf.map (fun p => (p.1, p.2.nb)) := by rw [h1]; exact List.mem_map_of_mem (List.getElem_mem hi)
  obtain ⟨p, hp, e⟩ := List.mem_map.1 h2
  injection e with e1 e2
  exact ⟨p.2, by rw [← e1]; exact hp, e2⟩
def nam (ls : List GF) : List (List UInt8) := ls.map fun g => g.nm.data.toList
def szs (ls : List GF) : Nat := (ls.map fun g => g.ds.length).sum
theorem nam_len (ls : List GF) : (nam ls).length = ls.length := by unfold nam; rw [List.length_map]
theorem nam_take (ls : List GF) (i : Nat) : nam (ls.take i) = (nam ls).take i := by unfold nam; rw [List.map_take]
theorem szs_snoc {ls : List GF} {i : Nat} (h : i < ls.length) : szs (ls.take (i + 1)) = szs (ls.take i) + ls[i].ds.length := by
  unfold szs
  rw [List.take_succ_eq_append_getElem h, List.map_append, List.sum_append]
  simp
theorem sum_mem : ∀ {l : List Nat} {x : Nat}, x ∈ l → x ≤ l.sum
  | y :: r, x, h => by
    rw [List.sum_cons]
    rcases List.mem_cons.1 h with rfl | h
    · omega
    · have := sum_mem h; omega
theorem szs_mem {ls : List GF} {g : GF} (h : g ∈ ls) : g.ds.length ≤ szs ls := sum_mem (List.mem_map_of_mem h)
theorem szs_le (ls : List GF) (i : Nat) : szs (ls.take i) ≤ szs ls := by
  have h : szs ls = szs (ls.take i) + szs (ls.drop i) := by
    unfold szs
    rw [← List.sum_append, ← List.map_append, List.take_append_drop]
  omega
theorem nodup_snoc {xs : List (List UInt8)} {i : Nat} (h : i < xs.length) : (xs.take (i + 1)).Nodup ↔ (xs.take i).Nodup ∧ xs[i] ∉ xs.take i := by
  rw [List.take_succ_eq_append_getElem h, List.nodup_append]
  constructor
  · intro ⟨h1, _, h3⟩
    exact ⟨h1, fun hm => h3 _ hm _ (List.mem_singleton.2 rfl) rfl⟩
  · intro ⟨h1, h2⟩
    exact ⟨h1, by simp, fun a ha b hb e => by
      obtain rfl := List.mem_singleton.1 hb
      exact h2 (e ▸ ha)⟩
theorem mem_snoc {xs : List (List UInt8)} {x : List UInt8} {j : Nat} (h : j < xs.length) : x ∈ xs.take (j + 1) ↔ x ∈ xs.take j ∨ x = xs[j] := by
  rw [List.take_succ_eq_append_getElem h, List.mem_append, List.mem_singleton]
theorem ld_nodup {room : Int} {fs : List GF} (h : ldE room fs = 0) : (nam fs).Nodup ∧ ((szs fs : Nat) : Int) ≤ room := by
  unfold ldE at h
  split at h
  · omega
  · split at h
    · omega
    · split at h
      · omega
      · split at h
        · omega
        · rename_i h1 h2 h3 h4
          exact ⟨Classical.not_not.1 h3, Classical.not_not.1 h4⟩
theorem ld_same {room : Int} {fs ls : List GF} (h : fs.map pr = ls.map pr) : ldE room fs = ldE room ls := by
  have h1 : fs.map (fun g => g.ds.length) = ls.map (fun g => g.ds.length) := by
    have := congrArg (List.map (fun p : List UInt8 × List UInt8 => p.2.length)) h
    simp only [List.map_map] at this
    exact this
  have h2 : nmsOf fs = nmsOf ls := by
    have := congrArg (List.map (fun p : List UInt8 × List UInt8 => p.1)) h
    simp only [List.map_map] at this
    exact this
  have h3 : (∀ g ∈ fs, isNm g.nm.data.toList = true) ↔ (∀ g ∈ ls, isNm g.nm.data.toList = true) := by
    have e : ∀ xs : List GF, (∀ g ∈ xs, isNm g.nm.data.toList = true) ↔ ∀ p ∈ xs.map pr, isNm p.1 = true := fun xs => by
      constructor
      · intro h p hp
        obtain ⟨g, hg, rfl⟩ := List.mem_map.1 hp
        exact h g hg
      · exact fun h g hg => h _ (List.mem_map_of_mem hg)
    rw [e, e, h]
  unfold ldE
  rw [h1, h2]
  simp only [h3]
theorem ld_cases {room : Int} {ls : List GF} (h0 : 0 ≤ room) (h1 : room ≤ 1099511627776) : ldE room ls = 120 ∨ (ldE room ls = 122 ∧ ¬ (nam ls).Nodup) ∨ (ldE room ls = 123 ∧ (nam ls).Nodup ∧ room < ((szs ls : Nat) : Int)) ∨ (ldE room ls = 0 ∧ (nam ls).Nodup ∧ ((szs ls : Nat) : Int) ≤ room) := by
  unfold ldE
  rw [if_neg (by omega)]
  by_cases h2 : ∀ g ∈ ls, isNm g.nm.data.toList = true
  · rw [if_neg (fun h => h h2)]
    by_cases h3 : (nam ls).Nodup
    · rw [if_neg (show ¬ ¬ (nmsOf ls).Nodup from fun h => h h3)]
      by_cases h4 : ((szs ls : Nat) : Int) ≤ room
      · rw [if_neg (show ¬ ¬ (((ls.map fun g => g.ds.length).sum : Nat) : Int) ≤ room from fun h => h h4)]
        exact .inr (.inr (.inr ⟨rfl, h3, h4⟩))
      · rw [if_pos (show ¬ (((ls.map fun g => g.ds.length).sum : Nat) : Int) ≤ room from h4)]
        exact .inr (.inr (.inl ⟨rfl, h3, by omega⟩))
    · rw [if_pos (show ¬ (nmsOf ls).Nodup from h3)]
      exact .inr (.inl ⟨rfl, h3⟩)
  · rw [if_pos h2]
    exact .inl rfl
end Go.Proofs.YtaibjeehjhlicaaDoor
