/- GX GY -/
import Derived.Test.YtjmbjpimabnohaaDoorK39
namespace Go.Proofs.YtjmbjpimabnohaaDoor.Mid
set_option linter.unusedVariables false
set_option linter.unusedSimpArgs false
open Go Go.RowKit
structure LwT (w1 : World) (l : List Ms) (vals : List Int) (wr : World) : Prop where
  bel : Below w1.heap.size w1 wr
  lg : LG l vals
  m : ∃ tv sv vv, LwM w1.heap.size w1.heap.size (w1.heap.size + 1) yMain tv sv vv vals.length vals.length vals.length (ints (List.replicate vals.length 1)) (rowC l) (ints vals) wr
theorem ints_snoc (l : List Int) (x : Int) : ints (l ++ [x]) = ints l ++ [.int .i64 x] := by simp [ints]
theorem rowC_snoc (l : List Ms) (s : Ms) : rowC (l ++ [s]) = rowC l ++ sC s := by simp [rowC]
theorem LwT.start (w1 : World) : LwT w1 [] [] ((w1.alloc (.cells #[.string yMain, .int .i64 0, .slice none 0 0, .slice none 0 0] 35)).alloc (.cells #[.slice none 0 0] 23)) := by
  have hz : (w1.alloc (.cells #[.string yMain, .int .i64 0, .slice none 0 0, .slice none 0 0] 35)).heap.size = w1.heap.size + 1 := by simp
  refine ⟨(al_bel _ _).trans ((al_bel (w1.alloc _) _).mono (by simp)), LG.nil, .slice none 0 0, .slice none 0 0, .slice none 0 0, ?_, ?_, World.ownsRow_nil _ _ _ _, World.ownsRow_nil _ _ _ _, World.ownsRow_nil _ _ _ _, Nat.le_refl _, Nat.le_succ _⟩
  · rw [row_eq_alloc (by omega), heap_alloc_last]
  · rw [← hz, heap_alloc_last]
theorem LwT.below {w1 wr w' : World} {l : List Ms} {vals : List Int} (h : LwT w1 l vals wr) (hb : Below wr.heap.size wr w') : LwT w1 l vals w' := by
  obtain ⟨tv, sv, vv, hm⟩ := h.m
  exact ⟨h.bel.trans (hb.mono h.bel.size), h.lg, tv, sv, vv, hm.on hb.block⟩
theorem LwT.val {w1 wr : World} {l : List Ms} {vals : List Int} (h : LwT w1 l vals wr) : ∃ q cap, wr.cell? ⟨w1.heap.size + 1, 0, none⟩ = some (.slice q vals.length cap) ∧ (0 < vals.length → ∃ g, q = some ⟨g, 0, none⟩ ∧ ∀ j, j < vals.length → wr.cell? ⟨g, j, none⟩ = some (.int .i64 (vals.getD j 0))) := by
  obtain ⟨tv, sv, vv, hm⟩ := h.m
  obtain ⟨q, cap, rfl⟩ := own_slice hm.u
  refine ⟨q, cap, cell_at (i := 0) hm.v rfl, fun hp => ?_⟩
  rcases own_row hm.u with ⟨_, e2⟩ | ⟨g, cap', e1, e2, e3⟩
  · omega
  · injection e1 with e1
    refine ⟨g, e1, fun j hj => e3 j _ ?_⟩
    show (vals.map fun x => Value.int .i64 x)[j]? = _
    rw [List.getElem?_map, List.getElem?_eq_getElem hj, List.getD_eq_getElem?_getD, List.getElem?_eq_getElem hj]
    rfl
abbrev agS (s : Ms) : Value := .agg #[.int .i64 s.code, .int .i64 s.dst, .int .i64 s.a, .int .i64 s.b, .int .i64 s.c, .int .i64 s.n, .string ⟨s.op.toArray⟩, .int .i64 s.label, .string ⟨s.name.toArray⟩, .slice none 0 0]
def LaP (w1 : World) (l : List Ms) (vals : List Int) (v : Int) (e : Ending) (w' : World) : Prop := e = .returned (.tuple #[]) ∧ ∃ l', LwT w1 l' (vals ++ [v]) w'
theorem lw_add {w1 wr : World} {l : List Ms} {vals : List Int} (h : LwT w1 l vals wr) (hn : vals.length ≤ 100) (s : Ms) (v : Int) (hs : s.label = 0 ∧ s.name = [] ∧ s.args = [] ∧ s.op.length ≤ 1000 ∧ I64 s.n ∧ I64 s.a ∧ I64 s.b ∧ I64 s.c) (hv : I64 v) (he : Ev vals vals.length s v) :
    Calls Tryd.prog 15 #[agS s, .int .i64 v, ptr w1.heap.size, ptr (w1.heap.size + 1)] wr (LaP w1 l vals v) := by
  obtain ⟨tv, sv, vv, hm⟩ := h.m
  have hlen := h.lg.len
  refine (add_15 wr w1.heap.size _ _ yMain tv sv vv vals.length _ _ _ hm h.bel.size (by omega) s v).mono ?_
  rintro e w' ⟨rfl, hb, tv', sv', vv', hm'⟩
  have hlg := h.lg.put hs hv he
  refine ⟨rfl, _, h.bel.trans hb, hlg, tv', sv', vv', ?_⟩
  have e1 : (vals ++ [v]).length = vals.length + 1 := by simp
  rw [e1, ints_snoc, rowC_snoc, List.replicate_succ', ints_snoc, hlen]
  exact hm'
theorem lw_ret {w1 wr : World} {l : List Ms} {vals : List Int} (h : LwT w1 l vals wr) (hp : 0 < vals.length) (hn : vals.length ≤ 100) :
    ∃ q2 c2 g4 k4 W4, wr.cell? ⟨w1.heap.size, 3, none⟩ = some (.slice q2 vals.length c2) ∧ (Builtin.append_ #[33, 33] 33 #[.slice q2 vals.length c2, .slice (some ⟨wr.heap.size, 0, none⟩) 1 1]).run Tryd.prog (wr.alloc (.cells #[.int .i64 8, .int .i64 0, .int .i64 ((vals.length - 1 : Nat) : Int), .int .i64 0, .int .i64 0, .int .i64 0, .string ⟨#[]⟩, .int .i64 0, .string ⟨#[]⟩, .slice none 0 0] 44)) = .ok (.slice (some ⟨g4, 0, none⟩) (vals.length + 1) k4) W4 ∧
      W4.cell? ⟨w1.heap.size, 3, none⟩ = some (.slice q2 vals.length c2) ∧ W4.frozen? ⟨w1.heap.size, 3, none⟩ = false ∧
      (∃ q c, LwT w1 l vals wr ∧ (W4.setCell ⟨w1.heap.size, 3, none⟩ (.slice (some ⟨g4, 0, none⟩) (vals.length + 1) k4)).heap[w1.heap.size]? = some (.cells #[.string yMain, .int .i64 0, .slice q vals.length c, .slice (some ⟨g4, 0, none⟩) (vals.length + 1) k4] 35) ∧
        FlM (W4.setCell ⟨w1.heap.size, 3, none⟩ (.slice (some ⟨g4, 0, none⟩) (vals.length + 1) k4)) w1.heap.size (.agg #[.string yMain, .int .i64 0, .slice q vals.length c, .slice (some ⟨g4, 0, none⟩) (vals.length + 1) k4]) yMain (List.replicate vals.length 1) (l ++ [rt ((vals.length - 1 : Nat) : Int)]) ∧
        (∃ tv sv vv, LwM w1.heap.size w1.heap.size (w1.heap.size + 1) yMain tv sv vv vals.length (vals.length + 1) vals.length (ints (List.replicate vals.length 1)) (rowC (l ++ [rt ((vals.length - 1 : Nat) : Int)])) (ints vals) (W4.setCell ⟨w1.heap.size, 3, none⟩ (.slice (some ⟨g4, 0, none⟩) (vals.length + 1) k4))) ∧
        Below w1.heap.size w1 (W4.setCell ⟨w1.heap.size, 3, none⟩ (.slice (some ⟨g4, 0, none⟩) (vals.length + 1) k4))) := by
  obtain ⟨tv, sv, vv, hm⟩ := h.m
  obtain ⟨q1, c1, rfl⟩ := own_slice hm.t
  obtain ⟨q2, c2, rfl⟩ := own_slice hm.s
  have hB := h.bel.size
  obtain ⟨g4, k4, W4, r4, o4, gr4⟩ := ap_row 44 33 10 112 _ info44 rfl (by decide) (by omega) und33 wr w1.heap.size _ vals.length _ hm.s (sC (rt ((vals.length - 1 : Nat) : Int))) rfl (fun u hu => rowC_one [rt ((vals.length - 1 : Nat) : Int)] u (by unfold rowC; simpa using hu)) (by omega) hB
  have hma : LwM w1.heap.size w1.heap.size (w1.heap.size + 1) yMain (.slice q1 vals.length c1) (.slice q2 vals.length c2) vv vals.length vals.length vals.length (ints (List.replicate vals.length 1)) (rowC l) (ints vals) (wr.alloc (.cells (sC (rt ((vals.length - 1 : Nat) : Int))).toArray 44)) := hm.on (fun b hb => row_eq_alloc hb)
  have hm' := hma.appS gr4 o4
  rw [← rowC_snoc] at hm'
  have hf4 : W4.heap[w1.heap.size]? = some (.cells #[.string yMain, .int .i64 0, .slice q1 vals.length c1, .slice q2 vals.length c2] 35) := by
    rw [gr4.block _ (Array.getElem?_eq_some_iff.1 hma.f).1 (fun e => by
      obtain ⟨cs', hc'⟩ := own_cs hma.s e.symm
      exact blk_ne hma.f hc' (by decide) rfl)]
    exact hma.f
  refine ⟨q2, c2, g4, k4, W4, cell_at (i := 3) hm.f rfl, r4, cell_at (i := 3) hf4 rfl, row_free hf4 3, q1, c1, h, hm'.f, ?_, ⟨_, _, _, hm'⟩, ?_⟩
  · refine ⟨_, _, rfl, ?_, ?_⟩
    · rw [List.length_replicate]; exact hm'.t
    · rw [List.length_append, h.lg.len]; exact hm'.s
  · have b4 : Below w1.heap.size wr (W4.setCell ⟨w1.heap.size, 3, none⟩ (.slice (some ⟨g4, 0, none⟩) (vals.length + 1) k4)) := (((al_bel wr _).mono hB).trans (gr_bel gr4 (by simp; omega) (own_ge hm.s))).setCell (p := ⟨w1.heap.size, 3, none⟩) (Nat.le_refl _) _
    exact h.bel.trans b4
def mk12 : Nat → By
  | 0 => [43] | 1 => [45] | 2 => [42] | 3 => [61, 61] | 4 => [33, 61] | 5 => [60] | 6 => [60, 61] | 7 => [62] | 8 => [62, 61] | 9 => [47] | 10 => [37] | _ => [99, 111, 112, 121]
abbrev mkV12 : Array Value := #[.string ⟨#[43]⟩, .string ⟨#[45]⟩, .string ⟨#[42]⟩, .string ⟨#[61, 61]⟩, .string ⟨#[33, 61]⟩, .string ⟨#[60]⟩, .string ⟨#[60, 61]⟩, .string ⟨#[62]⟩, .string ⟨#[62, 61]⟩, .string ⟨#[47]⟩, .string ⟨#[37]⟩, .string ⟨#[99, 111, 112, 121]⟩]
theorem ix12 (k : Nat) (hk : k < 12) (w : World) : (Instr.index 47 (.agg mkV12) (.int .i64 (k : Int))).run Tryd.prog w = .ok (.string ⟨(mk12 k).toArray⟩) w := by
  have h : k = 0 ∨ k = 1 ∨ k = 2 ∨ k = 3 ∨ k = 4 ∨ k = 5 ∨ k = 6 ∨ k = 7 ∨ k = 8 ∨ k = 9 ∨ k = 10 ∨ k = 11 := by omega
  rcases h with rfl | rfl | rfl | rfl | rfl | rfl | rfl | rfl | rfl | rfl | rfl | rfl <;> (show _ = _; kernel_rfl)
theorem mk12_mark : ∀ k : Fin 11, markB (mk12 k.val) = true ∧ (mk12 k.val).length ≤ 1000 ∧ ((⟨(mk12 k.val).toArray⟩ : ByteArray) == ⟨#[99, 111, 112, 121]⟩) = false := by decide +kernel
set_option maxRecDepth 100000 in
set_option maxHeartbeats 1000000 in
theorem equal0_35 (w : World) (p q : Option Addr) (c d : Nat) : Calls Tryd.prog 35 #[.slice p 0 c, .slice q 0 d] w fun e w' => e = .returned (.bool true) ∧ w' = w := by
  go_enter Tryd.func35, Tryd.ntmps35
  go_wp2
  go_loopw [13] (fun i wr => i = .int .i64 0 ∧ Hid (wr = w)) (fun _ _ => 0)
  case atStart => exact ⟨rfl, rfl⟩
  case round =>
    obtain ⟨rfl, hb⟩ := hrel
    go_wp2
    go_ret
    exact ⟨rfl, hb.out⟩
set_option maxRecDepth 100000 in
set_option maxHeartbeats 1000000 in
theorem same_18 (w : World) (wy cy : Int) (p q : Option Addr) (c d : Nat) :
    Calls Tryd.prog 18 #[.agg #[.int .i64 wy, .int .i64 cy, .slice p 0 c], .agg #[.int .i64 wy, .int .i64 cy, .slice q 0 d]] w fun e w' => e = .returned (.bool true) ∧ Below w.heap.size w w' := by
  have HEq : Hid (∀ W, Calls Tryd.prog 35 #[.slice p 0 c, .slice q 0 d] W fun e w' => e = .returned (.bool true) ∧ w' = W) := fun W => equal0_35 W p q c d
  go_enter Tryd.func18, Tryd.ntmps18
  go_wp2_with (go_at_call 35; fail)
  have hb : Below w.heap.size w ((w.alloc (.cells #[.int .i64 wy, .int .i64 cy, .slice p 0 c] 39)).alloc (.cells #[.int .i64 wy, .int .i64 cy, .slice q 0 d] 39)) := (al_bel _ _).trans ((al_bel (w.alloc _) _).mono (by simp))
  refine (HEq.out _).mono ?_
  rintro e wb ⟨rfl, rfl⟩
  have HB : Hid (Below w.heap.size w ((w.alloc (.cells #[.int .i64 wy, .int .i64 cy, .slice p 0 c] 39)).alloc (.cells #[.int .i64 wy, .int .i64 cy, .slice q 0 d] 39))) := hb
  clear hb
  go_wp2
  go_ret
  exact ⟨rfl, HB.out⟩
end Go.Proofs.YtjmbjpimabnohaaDoor.Mid
