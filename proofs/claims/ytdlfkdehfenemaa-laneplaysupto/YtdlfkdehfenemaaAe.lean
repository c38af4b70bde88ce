import Derived.Test.YtdlfkdehfenemaaAd
namespace Go.Proofs.Ytdlfkdehfenemaa
open Go.RowKit Go.Conc TextNum
theorem setChan_self {w : World} {c cap s r : Nat} {buf : Array Value} {cl tm : Bool} (h : w.heap[c]? = some (.chan cap buf cl s r tm)) : w.setChan c cap buf cl s r tm = w := by
  have e : w.heap.setIfInBounds c (.chan cap buf cl s r tm) = w.heap := by
    apply Array.ext_getElem?
    intro k
    rw [Array.getElem?_setIfInBounds]
    by_cases hk : c = k
    · subst hk
      rw [if_pos rfl, if_pos (lt_of_at h)]; exact h.symm
    · rw [if_neg hk]
  unfold World.setChan
  rw [e]
set_option maxRecDepth 100000 in
theorem ended_walk (w : World) (pb j la : Nat) (sh : Bool) (cs : List Value) (hp : At w pb 87 cs) (h1 : cs[j + 1]? = some (.bool sh)) (h2 : cs[j + 2]? = some (.int .i64 (la : Int))) :
    Calls Try.prog 66 #[.pointer (some ⟨pb, j, none⟩)] w fun e w' => e = .returned (.bool (sh && la == 0)) ∧ w' = w := by
  have c1 := hp.cell h1
  have c2 := hp.cell h2
  cases sh
  · go_enter Try.func66, Try.ntmps66
    go_wp2
    go_ret
    exact ⟨rfl, rfl⟩
  · have e : ((la : Int) == 0) = (la == 0) := by
      rw [Bool.eq_iff_iff]; simp
    go_enter Try.func66, Try.ntmps66
    go_wp2
    go_ret
    exact ⟨rfl, rfl⟩
set_option maxRecDepth 100000 in
theorem endChannel_walk (w : World) (pb j la c s r : Nat) (sh : Bool) (cs : List Value) (buf : Array Value) (hp : At w pb 87 cs) (h0 : cs[j]? = some (.chan (some c))) (h1 : cs[j + 1]? = some (.bool sh)) (h2 : cs[j + 2]? = some (.int .i64 (la : Int)))
    (hch : w.heap[c]? = some (.chan 64 buf false s r false)) :
    Calls Try.prog 56 #[.pointer (some ⟨pb, j, none⟩)] w fun e w' => e = .returned (.tuple #[]) ∧ w' = w.setChan c 64 buf (sh && la == 0) s r false := by
  have c0 := hp.cell h0
  have hE := ended_walk w pb j la sh cs hp h1 h2
  have hcl := fun ats ty => run_close_open (P := Try.prog) (w := w) ats ty hch
  go_enter Try.func56, Try.ntmps56
  go_wp2_with fail
  refine hE.mono ?_
  rintro e w1 ⟨rfl, rfl⟩
  dsimp only
  cases hb : (sh && la == 0)
  · go_wp2
    go_end0
    exact ⟨rfl, by rw [hb, setChan_self hch]⟩
  · go_wp2
    go_end0
    exact ⟨rfl, by rw [hb]; rfl⟩
/-- a lane's three cells -/
theorem lcell0 {S : NS} {i : Nat} {l : LC} (hl : S.ls[i]? = some l) : (lcs S.ls)[i * 3]? = some (.chan (some l.c)) := by
  have := lcs_get (k := 0) hl (by omega)
  simpa [lc] using this
theorem lcell1 {S : NS} {i : Nat} {l : LC} (hl : S.ls[i]? = some l) : (lcs S.ls)[i * 3 + 1]? = some (.bool l.sh) := by
  have := lcs_get (k := 1) hl (by omega)
  simpa [lc] using this
theorem lcell2 {S : NS} {i : Nat} {l : LC} (hl : S.ls[i]? = some l) : (lcs S.ls)[i * 3 + 2]? = some (.int .i64 (l.la : Int)) := by
  have := lcs_get (k := 2) hl (by omega)
  simpa [lc] using this
theorem set_get {ls : List LC} {i : Nat} {l l' : LC} (h : ls[i]? = some l) : (ls.set i l')[i]? = some l' := List.getElem?_set_self (List.getElem?_eq_some_iff.1 h).1
theorem set_two {ls : List LC} {i : Nat} {a b : LC} : (ls.set i a).set i b = ls.set i b := by simp
/-- the count of a lane is written, and its channel ends where it must -/
theorem NOk.count {w : World} {S : NS} (h : NOk w S) {i : Nat} {l : LC} (hl : S.ls[i]? = some l) (sh : Bool) (la : Nat) {w1 : World} (hb : w.grownBy w1 (some S.pb)) (hr : At w1 S.pb 87 (lcs (S.ls.set i { l with sh := sh, la := la }))) :
    NOk (w1.setChan l.c 64 (l.ms.map (·.v)).toArray (sh && la == 0) l.s l.r false) (wLs S i { l with sh := sh, la := la }) := by
  have hx := h.chs l (get_mem hl)
  have hne := at_notchan h.row hx
  have hx1 : w1.heap[l.c]? = some (chn l) := by
    rw [hb.block l.c (lt_of_at hx) (fun e => hne (Option.some.inj e).symm)]; exact hx
  have hc := grown_chan w1 l.c 64 (l.ms.map (·.v)).toArray (sh && la == 0) l.s l.r false
  have hf : Fr (fun k => k = S.pb ∨ k = l.c) w (w1.setChan l.c 64 (l.ms.map (·.v)).toArray (sh && la == 0) l.s l.r false) :=
    ((Fr.refl _ w).by hb (fun g hg => .inl (.inl (Option.some.inj hg).symm))).by hc (fun g hg => .inl (.inr (Option.some.inj hg).symm))
  refine h.lane hl rfl ?_ ?_ hf (fun m hm => ?_)
  · exact hr.by hc (fun e => hne (Option.some.inj e).symm)
  · rw [heap_setChan _ _ _ _ _ _ _ _ (lt_of_at hx1)]; rfl
  · have hm1 := h.ms m (List.mem_append.2 (.inl (List.mem_flatMap.2 ⟨l, get_mem hl, hm⟩)))
    refine hf.own hm1 (fun g hg hk => ?_)
    have t1 := row_tag hm1 hg
    rcases hk with rfl | rfl
    · rw [h.row.tag] at t1; cases t1
    · rw [show otag w l.c = some 1000 by simp only [otag, hx, chn]] at t1; cases t1
def arrL (l : LC) (m : Msg) : LC := { comeL l m with la := l.la - 1 }
theorem fr_own {S : NS} {i : Nat} {l : LC} {w w' : World} (hl : S.ls[i]? = some l) (h : Fr (fun k => k = S.pb ∨ k = l.c) w w') : Fr (own S) w w' := h.weak fun g hg => by
  rcases hg with rfl | rfl
  · exact .inr (.inl rfl)
  · exact .inr (.inr (.inr (.inl ⟨l, get_mem hl, rfl⟩)))
set_option maxRecDepth 100000 in
theorem arrive_walk (w : World) (S : NS) (i : Nat) (l : LC) (m : Msg) (h : NOk w S) (hl : S.ls[i]? = some l) (h0 : 0 < l.la) (hb : l.la ≤ 4611686018427387904) (hm : Ow w 0 m.v m.d) :
    Calls Try.prog 67 #[.pointer (some ⟨S.pb, i * 3, none⟩), m.v] w fun e w' => e = .returned (.tuple #[]) ∧ NOk w' (wLs S i (arrL l m)) ∧ Fr (fun k => k = S.pb ∨ k = l.c) w w' := by
  have ho : (l.sh && l.la == 0) = false := by
    have : (l.la == 0) = false := by simp; omega
    simp [this]
  have hx := h.chs l (get_mem hl)
  have hx' : w.heap[l.c]? = some (.chan 64 (l.ms.map (·.v)).toArray false l.s l.r false) := by rw [hx, chn, ho]
  have HC := Hid.of (come_walk w S.pb (i * 3) l.c l.s l.r (lcs S.ls) _ m.v h.row (lcell0 hl) hx')
  have HN := Hid.of (h.come hl ho hm)
  have HF := Hid.of ((Fr.refl (fun k => k = S.pb ∨ k = l.c) w).by (wcome_by w l.c (l.ms.map (·.v)).toArray l.s l.r m.v) (fun g hg => .inl (.inr (Option.some.inj hg).symm)))
  have HX := Hid.of hx
  go_enter Try.func67, Try.ntmps67
  go_wp2_with fail
  refine HC.out.mono ?_
  rintro e w1 ⟨rfl, hw1⟩
  rw [← hw1] at HN HF
  clear hw1 HC hx hx'
  have hl1 : (wLs S i (comeL l m)).ls[i]? = some (comeL l m) := set_get hl
  have hr1 := HN.out.row
  have c2 := hr1.cell (lcell2 hl1)
  have t2 := hr1.thaw (i * 3 + 2)
  rw [comeL_la] at c2
  have hwr : IntKind.i64.wrap ((l.la : Int) - 1) = (l.la : Int) - 1 := by rw [IntKind.wrap_i64]; omega
  dsimp only
  go_wp2_with fail
  have hA2 := hr1.set (i * 3 + 2) (.int .i64 ((l.la : Int) - 1))
  have hG2 := grown_at w1 S.pb (i * 3 + 2) (.int .i64 ((l.la : Int) - 1))
  have hla : ((l.la : Int) - 1) = ((l.la - 1 : Nat) : Int) := by omega
  rw [lcs_set (l' := arrL l m) (k := 2) hl1 (by omega) (by rw [hla]; rfl)] at hA2
  have hN2 := HN.out.count hl1 (comeL l m).sh (l.la - 1) hG2 hA2
  have hF2 := HF.out.by hG2 (fun g hg => .inl (.inl (Option.some.inj hg).symm))
  have hx1 := HN.out.chs _ (get_mem hl1)
  have hne := at_notchan hr1 hx1
  have hx2 : (w1.setCell ⟨S.pb, i * 3 + 2, none⟩ (.int .i64 ((l.la : Int) - 1))).heap[(comeL l m).c]? = some (chn (comeL l m)) := by
    rw [hG2.block _ (lt_of_at hx1) (fun e => hne (Option.some.inj e).symm)]; exact hx1
  have hl2 : ((S.ls.set i (comeL l m)).set i (arrL l m))[i]? = some (arrL l m) := set_get hl1
  have hx3 : (w1.setCell ⟨S.pb, i * 3 + 2, none⟩ (.int .i64 ((l.la : Int) - 1))).heap[(comeL l m).c]? = some (.chan 64 ((comeL l m).ms.map (·.v)).toArray false (comeL l m).s (comeL l m).r false) := by
    rw [hx2, chn, comeL_la, comeL_sh, ho]
  have e0 := lcs_get (k := 0) hl2 (by omega)
  have e1 := lcs_get (k := 1) hl2 (by omega)
  have e2 := lcs_get (k := 2) hl2 (by omega)
  generalize w1.setCell ⟨S.pb, i * 3 + 2, none⟩ (.int .i64 ((l.la : Int) - 1)) = W2 at *
  refine (endChannel_walk W2 S.pb (i * 3) (l.la - 1) (comeL l m).c (comeL l m).s (comeL l m).r (comeL l m).sh _ _ hA2 e0 e1 e2 hx3).mono ?_
  rintro e w4 ⟨rfl, rfl⟩
  dsimp only
  go_wp2
  go_end0
  refine ⟨rfl, ?_, ?_⟩
  · have e : wLs (wLs S i (comeL l m)) i (arrL l m) = wLs S i (arrL l m) := by simp only [wLs, List.set_set]
    rw [← e]
    exact hN2
  · rw [comeL_c]
    exact hF2.by (grown_chan ..) (fun g hg => .inl (.inr (Option.some.inj hg).symm))
end Go.Proofs.Ytdlfkdehfenemaa
