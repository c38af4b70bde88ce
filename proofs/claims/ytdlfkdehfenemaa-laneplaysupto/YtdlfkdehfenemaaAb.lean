import Derived.Test.YtdlfkdehfenemaaAa
namespace Go.Proofs.Ytdlfkdehfenemaa
open Go.RowKit Go.Conc TextNum
/-- a message comes to a channel, or is lost -/
def wcome (w : World) (c : Nat) (buf : Array Value) (s r : Nat) (m : Value) : World := if buf.size < 64 then w.setChan c 64 (buf.push m) false (s + 1) r false else w
set_option maxRecDepth 100000 in
theorem come_walk (w : World) (pb i c s r : Nat) (cs : List Value) (buf : Array Value) (m : Value) (hp : At w pb 87 cs) (hc : cs[i]? = some (.chan (some c))) (hch : w.heap[c]? = some (.chan 64 buf false s r false)) :
    Calls Try.prog 65 #[.pointer (some ⟨pb, i, none⟩), m] w fun e w' => e = .returned (.tuple #[]) ∧ w' = wcome w c buf s r m := by
  have hcell := hp.cell hc
  refine calls_of_wk Try.func65 rfl ?_
  simp only [Try.ntmps65, List.size_toArray, List.length_cons, List.length_nil, Nat.reduceAdd, Nat.reduceSub, Array.replicate_succ,
     Array.replicate_zero, List.push_toArray, List.append_toArray, List.nil_append, List.cons_append]
  refine wk_seq (wk_of ?_)
  go_wp2
  refine wk_seq (wk_region ?_)
  simp only [List.size_toArray, List.length_cons, List.length_nil, Nat.reduceAdd, List.range, List.range.loop]
  by_cases h : buf.size < 64
  · refine wkO_comm (cases := #[scase c m (.slice none 0 0)]) (blocking := false) (shape := .select) (w1 := w) (w' := wcome w c buf s r m) (v := .tuple #[goInt 0, .bool false]) rfl rfl (by simp [go_sem, execOp, scase, Act.eval]) ?_ ?_
    · intro fr cs' es hst
      have := step_lone_sel_send_room (k := 0) (c := c) (cap := 64) (buf := buf) (s := s) (r := r) (tm := false) (v := m) (z := .slice none 0 0) hst rfl (fun n c' hn hc' => ?_) hch h
      · rw [this]
        simp only [wcome, if_pos h]
        simp [commResult, scase, List.zipIdx_cons]
      · rcases n with _ | n
        · exact absurd rfl hn
        · simp at hc'
    · refine wkO_val (v := goInt 0) (w' := wcome w c buf s r m) rfl rfl (by simp [go_sem, execOp, Act.eval, Act.put]) ?_
      refine wkO_val (v := .bool true) (w' := wcome w c buf s r m) rfl rfl (by simp [go_sem, execOp, Act.eval, Act.put]) ?_
      refine wkO_nil (wk_of ?_)
      simp only [Act.put, List.setIfInBounds_toArray, List.set_cons_zero, List.set_cons_succ, List.getElem_toArray, List.getElem_cons_zero, List.getElem_cons_succ]
      go_wp2
      go_end0
      exact ⟨rfl, rfl⟩
  · refine wkO_comm (cases := #[scase c m (.slice none 0 0)]) (blocking := false) (shape := .select) (w1 := w) (w' := w) (v := .tuple #[goInt (-1), .bool false]) rfl rfl (by simp [go_sem, execOp, scase, Act.eval]) ?_ ?_
    · intro fr cs' es hst
      rw [step_lone_sel_default hst (fun cc hcc => ?_)]
      · simp [commResult, scase, List.zipIdx_cons]
      · simp only [List.mem_toArray, List.mem_cons, List.not_mem_nil, or_false] at hcc
        subst hcc
        exact noWay_send hch (by omega)
    · refine wkO_val (v := goInt (-1)) (w' := w) rfl rfl (by simp [go_sem, execOp, Act.eval, Act.put]) ?_
      refine wkO_val (v := .bool false) (w' := w) rfl rfl (by simp [go_sem, execOp, Act.eval, Act.put]) ?_
      refine wkO_nil (wk_of ?_)
      simp only [Act.put, List.setIfInBounds_toArray, List.set_cons_zero, List.set_cons_succ, List.getElem_toArray, List.getElem_cons_zero, List.getElem_cons_succ]
      go_wp2
      go_end0
      exact ⟨rfl, by simp only [wcome, if_neg h]⟩
end Go.Proofs.Ytdlfkdehfenemaa
