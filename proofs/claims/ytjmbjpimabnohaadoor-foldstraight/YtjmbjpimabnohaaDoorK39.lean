/- GU GW -/
import Derived.Test.YtjmbjpimabnohaaDoorK38
namespace Go.Proofs.YtjmbjpimabnohaaDoor.Mid
set_option linter.unusedVariables false
set_option linter.unusedSimpArgs false
open Go Go.RowKit
def AdP (B fb vb : Nat) (y : ByteArray) (n : Nat) (ts zs us : List Value) (s : Ms) (v : Int) (w : World) (e : Ending) (w' : World) : Prop :=
  e = .returned (.tuple #[]) ∧ Below B w w' ∧ ∃ tv' sv' vv', LwM B fb vb y tv' sv' vv' (n + 1) (n + 1) (n + 1) (ts ++ [.int .i64 1]) (zs ++ sC { s with dst := (n : Int) }) (us ++ [.int .i64 v]) w'
theorem gr_bel {B : Nat} {w w' : World} {row : Option Nat} (h : w.grownBy w' row) (hB : B ≤ w.heap.size) (hr : ∀ k, row = some k → B ≤ k) : Below B w w' :=
  ⟨h.os, h.tape, h.output, h.size, fun b hb => h.block b (by omega) (fun e => by have := hr b e.symm; omega)⟩
theorem own_ge {w : World} {B e z n : Nat} {v : Value} {l : List Value} (h : w.ownsRow B e z v n l) : ∀ k, v.ownBlock = some k → B ≤ k := fun k hk => (h.lt k hk).1
set_option maxRecDepth 100000 in
set_option maxHeartbeats 8000000 in
theorem add_15 (w : World) (B fb vb : Nat) (y : ByteArray) (tv sv vv : Value) (n : Nat) (ts zs us : List Value) (h : LwM B fb vb y tv sv vv n n n ts zs us w) (hB : B ≤ w.heap.size) (hn : n ≤ 1000) (s : Ms) (v : Int) :
    Calls Tryd.prog 15 #[.agg #[.int .i64 s.code, .int .i64 s.dst, .int .i64 s.a, .int .i64 s.b, .int .i64 s.c, .int .i64 s.n, .string ⟨s.op.toArray⟩, .int .i64 s.label, .string ⟨s.name.toArray⟩, .slice none 0 0], .int .i64 v, ptr fb, ptr vb] w (AdP B fb vb y n ts zs us s v w) := by
  obtain ⟨q1, c1, rfl⟩ := own_slice h.t
  obtain ⟨q2, c2, rfl⟩ := own_slice h.s
  obtain ⟨q3, c3, rfl⟩ := own_slice h.u
  obtain ⟨sa, hsa⟩ : ∃ sa : List Value, sa = sC { s with dst := (n : Int) } := ⟨_, rfl⟩
  have hsl : sa.length = 10 := by rw [hsa]; rfl
  obtain ⟨W1, hW1⟩ : ∃ W1, W1 = w.alloc (.cells sa.toArray 44) := ⟨_, rfl⟩
  have hb1 : Below w.heap.size w W1 := by rw [hW1]; exact al_bel _ _
  have hz1 : W1.heap.size = w.heap.size + 1 := by rw [hW1]; simp
  have hbx1 : W1.heap[w.heap.size]? = some (.cells sa.toArray 44) := by rw [hW1]; exact heap_alloc_last _ _
  have h1 : LwM B fb vb y (.slice q1 n c1) (.slice q2 n c2) (.slice q3 n c3) n n n ts zs us W1 := h.on hb1.block
  obtain ⟨g2, k2, W2, r2, o2, gr2⟩ := ap_row 3 32 1 8 _ info3 rfl (by decide) (by omega) und32 W1 B _ n ts h1.t [.int .i64 1] rfl (fun u hu => by simp at hu; subst hu; rfl) (by omega) (by omega)
  have h1a : LwM B fb vb y (.slice q1 n c1) (.slice q2 n c2) (.slice q3 n c3) n n n ts zs us (W1.alloc (.cells #[.int .i64 1] 3)) := h1.on (fun b hb => row_eq_alloc hb)
  obtain ⟨W3, hW3⟩ : ∃ W3, W3 = W2.setCell ⟨fb, 2, none⟩ (.slice (some ⟨g2, 0, none⟩) (n + 1) k2) := ⟨_, rfl⟩
  have h3 : LwM B fb vb y (.slice (some ⟨g2, 0, none⟩) (n + 1) k2) (.slice q2 n c2) (.slice q3 n c3) (n + 1) n n (ts ++ [.int .i64 1]) zs us W3 := by rw [hW3]; exact h1a.appT gr2 o2
  have hza : (W1.alloc (.cells #[.int .i64 1] 3)).heap.size = W1.heap.size + 1 := by simp
  have hz2 := gr2.size
  have hz3 : W3.heap.size = W2.heap.size := by rw [hW3]; simp [World.setCell]
  have hw2 : ∀ cs t, W1.heap[w.heap.size]? = some (.cells cs t) → t ≠ 3 → W2.heap[w.heap.size]? = some (.cells cs t) := fun cs t hc ht => by
    rw [gr2.block _ (by omega) (fun e => by
      obtain ⟨cs', hc'⟩ := own_cs h1.t e.symm
      exact blk_ne hc hc' ht rfl), row_eq_alloc (by omega)]
    exact hc
  have hbx2 := hw2 _ _ hbx1 (by decide)
  have hf2 : ∃ x, W2.heap[fb]? = some (.cells #[.string y, .int .i64 0, .slice q1 n c1, x] 35) := ⟨.slice q2 n c2, by
    rw [gr2.block _ (Array.getElem?_eq_some_iff.1 h1a.f).1 (fun e => by
      obtain ⟨cs', hc'⟩ := own_cs h1a.t e.symm
      exact blk_ne h1a.f hc' (by decide) rfl)]
    exact h1a.f⟩
  have hfw : fb ≠ w.heap.size := by have := (Array.getElem?_eq_some_iff.1 h.f).1; omega
  have hbx3 : W3.heap[w.heap.size]? = some (.cells sa.toArray 44) := by rw [hW3, heap_setCell_other _ _ _ _ (by show w.heap.size ≠ fb; omega)]; exact hbx2
  obtain ⟨g4, k4, W4, r4, o4, gr4⟩ := ap_row 44 33 10 112 _ info44 rfl (by decide) (by omega) und33 W3 B _ n zs h3.s sa hsl (fun u hu => rowC_one [{ s with dst := (n : Int) }] u (by rw [hsa] at hu; unfold rowC; simpa using hu)) (by omega) (by omega)
  have h3a : LwM B fb vb y (.slice (some ⟨g2, 0, none⟩) (n + 1) k2) (.slice q2 n c2) (.slice q3 n c3) (n + 1) n n (ts ++ [.int .i64 1]) zs us (W3.alloc (.cells sa.toArray 44)) := h3.on (fun b hb => row_eq_alloc hb)
  obtain ⟨W5, hW5⟩ : ∃ W5, W5 = W4.setCell ⟨fb, 3, none⟩ (.slice (some ⟨g4, 0, none⟩) (n + 1) k4) := ⟨_, rfl⟩
  have h5 : LwM B fb vb y (.slice (some ⟨g2, 0, none⟩) (n + 1) k2) (.slice (some ⟨g4, 0, none⟩) (n + 1) k4) (.slice q3 n c3) (n + 1) (n + 1) n (ts ++ [.int .i64 1]) (zs ++ sa) us W5 := by rw [hW5]; exact h3a.appS gr4 o4
  have hf4 : W4.heap[fb]? = some (.cells #[.string y, .int .i64 0, .slice (some ⟨g2, 0, none⟩) (n + 1) k2, .slice q2 n c2] 35) := by
    rw [gr4.block _ (Array.getElem?_eq_some_iff.1 h3a.f).1 (fun e => by
      obtain ⟨cs', hc'⟩ := own_cs h3a.s e.symm
      exact blk_ne h3a.f hc' (by decide) rfl)]
    exact h3a.f
  have hz4 := gr4.size
  have hz3a : (W3.alloc (.cells sa.toArray 44)).heap.size = W3.heap.size + 1 := by simp
  have hz5 : W5.heap.size = W4.heap.size := by rw [hW5]; simp [World.setCell]
  obtain ⟨g6, k6, W6, r6, o6, gr6⟩ := ap_row 2 23 1 8 _ info2 rfl (by decide) (by omega) und23 W5 B _ n us h5.u [.int .i64 v] rfl (fun u hu => by simp at hu; subst hu; rfl) (by omega) (by omega)
  have h5a : LwM B fb vb y (.slice (some ⟨g2, 0, none⟩) (n + 1) k2) (.slice (some ⟨g4, 0, none⟩) (n + 1) k4) (.slice q3 n c3) (n + 1) (n + 1) n (ts ++ [.int .i64 1]) (zs ++ sa) us (W5.alloc (.cells #[.int .i64 v] 2)) := h5.on (fun b hb => row_eq_alloc hb)
  have hv6 : W6.heap[vb]? = some (.cells #[.slice q3 n c3] 23) := by
    rw [gr6.block _ (Array.getElem?_eq_some_iff.1 h5a.v).1 (fun e => by
      obtain ⟨cs', hc'⟩ := own_cs h5a.u e.symm
      exact blk_ne h5a.v hc' (by decide) rfl)]
    exact h5a.v
  have hfin : AdP B fb vb y n ts zs us s v w (.returned (.tuple #[])) (W6.setCell ⟨vb, 0, none⟩ (.slice (some ⟨g6, 0, none⟩) (n + 1) k6)) := by
    refine ⟨rfl, ?_, _, _, _, by rw [← hsa]; exact h5a.appV gr6 o6⟩
    have b1 : Below B w W1 := ⟨hb1.os, hb1.tape, hb1.output, hb1.size, fun b hb => hb1.block b (by omega)⟩
    have al : ∀ (W : World) (o : Obj), B ≤ W.heap.size → Below B W (W.alloc o) := fun W o hW => (al_bel W o).mono hW
    have b2 : Below B W1 W3 := by
      rw [hW3]
      exact ((al _ _ (by omega)).trans (gr_bel gr2 (by omega) (own_ge h1.t))).setCell (p := ⟨fb, 2, none⟩) h.hf _
    have b4 : Below B W3 W5 := by
      rw [hW5]
      exact ((al _ _ (by omega)).trans (gr_bel gr4 (by omega) (own_ge h3.s))).setCell (p := ⟨fb, 3, none⟩) h.hf _
    have b6 : Below B W5 (W6.setCell ⟨vb, 0, none⟩ (.slice (some ⟨g6, 0, none⟩) (n + 1) k6)) := ((al _ _ (by omega)).trans (gr_bel gr6 (by simp; omega) (own_ge h5.u))).setCell (p := ⟨vb, 0, none⟩) h.hv _
    exact ((b1.trans b2).trans b4).trans b6
  have u2 : w.cell? ⟨fb, 2, none⟩ = some (.slice q1 n c1) := cell_at (i := 2) h.f rfl
  have ua : ∀ o, (w.alloc o).cell? ⟨fb, 2, none⟩ = some (.slice q1 n c1) := fun o => cell_old u2
  have a2 : W1.cell? ⟨fb, 2, none⟩ = some (.slice q1 n c1) := cell_at (i := 2) h1.f rfl
  obtain ⟨x2, hx2⟩ := hf2
  have e2 : W2.cell? ⟨fb, 2, none⟩ = some (.slice q1 n c1) := cell_at (i := 2) hx2 rfl
  have f2 : W2.frozen? ⟨fb, 2, none⟩ = false := row_free hx2 2
  have e3 : W3.cell? ⟨fb, 3, none⟩ = some (.slice q2 n c2) := cell_at (i := 3) h3.f rfl
  have e4 : W4.cell? ⟨fb, 3, none⟩ = some (.slice q2 n c2) := cell_at (i := 3) hf4 rfl
  have f4 : W4.frozen? ⟨fb, 3, none⟩ = false := row_free hf4 3
  have e5 : W5.cell? ⟨vb, 0, none⟩ = some (.slice q3 n c3) := cell_at (i := 0) h5.v rfl
  have e6 : W6.cell? ⟨vb, 0, none⟩ = some (.slice q3 n c3) := cell_at (i := 0) hv6 rfl
  have f6 : W6.frozen? ⟨vb, 0, none⟩ = false := row_free hv6 0
  rw [hsa] at hbx3 r4 hW1
  have s0 : W3.cell? ⟨w.heap.size, 0, none⟩ = some (.int .i64 s.code) := cell_at (i := 0) hbx3 rfl
  have s1 : W3.cell? ⟨w.heap.size, 1, none⟩ = some (.int .i64 (n : Int)) := cell_at (i := 1) hbx3 rfl
  have s2 : W3.cell? ⟨w.heap.size, 2, none⟩ = some (.int .i64 s.a) := cell_at (i := 2) hbx3 rfl
  have s3 : W3.cell? ⟨w.heap.size, 3, none⟩ = some (.int .i64 s.b) := cell_at (i := 3) hbx3 rfl
  have s4 : W3.cell? ⟨w.heap.size, 4, none⟩ = some (.int .i64 s.c) := cell_at (i := 4) hbx3 rfl
  have s5 : W3.cell? ⟨w.heap.size, 5, none⟩ = some (.int .i64 s.n) := cell_at (i := 5) hbx3 rfl
  have s6 : W3.cell? ⟨w.heap.size, 6, none⟩ = some (.string ⟨s.op.toArray⟩) := cell_at (i := 6) hbx3 rfl
  have s7 : W3.cell? ⟨w.heap.size, 7, none⟩ = some (.int .i64 s.label) := cell_at (i := 7) hbx3 rfl
  have s8 : W3.cell? ⟨w.heap.size, 8, none⟩ = some (.string ⟨s.name.toArray⟩) := cell_at (i := 8) hbx3 rfl
  have s9 : W3.cell? ⟨w.heap.size, 9, none⟩ = some (.slice none 0 0) := cell_at (i := 9) hbx3 rfl
  obtain ⟨A, hA⟩ : ∃ A : Obj, A = .cells #[.int .i64 s.code, .int .i64 (n : Int), .int .i64 s.a, .int .i64 s.b, .int .i64 s.c, .int .i64 s.n, .string ⟨s.op.toArray⟩, .int .i64 s.label, .string ⟨s.name.toArray⟩, .slice none 0 0] 44 := ⟨_, rfl⟩
  have hW1' : W1 = w.alloc A := by rw [hW1, hA]; rfl
  have r4' : (Builtin.append_ #[33, 33] 33 #[.slice q2 n c2, .slice (some ⟨W3.heap.size, 0, none⟩) 1 1]).run Tryd.prog (W3.alloc A) = .ok (.slice (some ⟨g4, 0, none⟩) (n + 1) k4) W4 := by rw [hA]; exact r4
  have r2' : (Builtin.append_ #[32, 32] 32 #[.slice q1 n c1, .slice (some ⟨W1.heap.size, 0, none⟩) 1 1]).run Tryd.prog (W1.alloc (.cells #[.int .i64 1] 3)) = .ok (.slice (some ⟨g2, 0, none⟩) (n + 1) k2) W2 := r2
  have r6' : (Builtin.append_ #[23, 23] 23 #[.slice q3 n c3, .slice (some ⟨W5.heap.size, 0, none⟩) 1 1]).run Tryd.prog (W5.alloc (.cells #[.int .i64 v] 2)) = .ok (.slice (some ⟨g6, 0, none⟩) (n + 1) k6) W6 := r6
  rw [hz1] at r2'
  rw [hz3] at r4'
  rw [hz5] at r6'
  rw [hW1'] at r2' a2
  rw [hW3] at r4' e3 s0 s1 s2 s3 s4 s5 s6 s7 s8 s9
  rw [hW5] at r6' e5
  rw [hA] at r2' r4' a2
  have HR2 : Hid (_ = _) := r2'
  have HR4 : Hid (_ = _) := r4'
  have HR6 : Hid (_ = _) := r6'
  have HX : Hid (AdP B fb vb y n ts zs us s v w (.returned (.tuple #[])) (W6.setCell ⟨vb, 0, none⟩ (.slice (some ⟨g6, 0, none⟩) (n + 1) k6))) := hfin
  generalize AdP B fb vb y n ts zs us s v w = G at HX ⊢
  clear hfin h h1 h1a h3 h3a h5 h5a r2 r4 r6 r2' r4' r6' o2 o4 o6 gr2 gr4 gr6 hb1 hz1 hbx1 hbx2 hbx3 hza hz2 hz3 hz4 hz3a hz5 hx2 hf4 hv6 hw2 hW1 hW1' hW3 hW5 hA hfw hsl hsa hB
  go_enter Tryd.func15, Tryd.ntmps15
  go_wp2_with (first | (at_builtin; refine wpl_run_append _ rfl _ _ 32 32 rfl rfl rfl HR2.out ?_) | (at_builtin; refine wpl_run_append _ rfl _ _ 33 33 rfl rfl rfl HR4.out ?_) | (at_builtin; refine wpl_run_append _ rfl _ _ 23 23 rfl rfl rfl HR6.out ?_))
  go_wp2
  go_end0
  exact HX.out
theorem wrap_u64_nat (n : Nat) (h : n ≤ 1000000) : IntKind.u64.wrap (n : Int) = (n : Int) := by
  have h2 : IntKind.u64.wrap (n : Int) = (n : Int) % 18446744073709551616 := rfl
  rw [h2]
  omega
def pickN (a : Int) (n : Nat) : Nat := (IntKind.u64.wrap a).toNat % n
theorem pickN_lt (a : Int) {n : Nat} (h : 0 < n) : pickN a n < n := Nat.mod_lt _ h
set_option maxRecDepth 100000 in
set_option maxHeartbeats 1000000 in
theorem pick_16 (w : World) (a : Int) (n : Nat) (h0 : 0 < n) (hn : n ≤ 1000000) : Calls Tryd.prog 16 #[.int .i64 a, .int .i64 (n : Int)] w (fun e w' => e = .returned (.int .i64 (pickN a n : Int)) ∧ w' = w) := by
  obtain ⟨u, hu⟩ : ∃ u, IntKind.u64.wrap a = u := ⟨_, rfl⟩
  have hu0 : 0 ≤ u := by
    have h2 : IntKind.u64.wrap a = a % 18446744073709551616 := rfl
    rw [← hu, h2]
    exact Int.emod_nonneg _ (by omega)
  have hw := wrap_u64_nat n hn
  have hk : (u.tmod (n : Int)) = ((u.toNat % n : Nat) : Int) := by
    obtain ⟨un, rfl⟩ : ∃ un : Nat, u = (un : Int) := ⟨u.toNat, by omega⟩
    rw [← Int.ofNat_tmod, Int.toNat_natCast]
  have hlt : u.toNat % n < n := Nat.mod_lt _ h0
  obtain ⟨k, hkk⟩ : ∃ k, u.toNat % n = k := ⟨_, rfl⟩
  rw [hkk] at hk hlt
  have hnz : ((n : Int) == 0) = false := by simp; omega
  have hnz2 : ¬ (n : Int) = 0 := by omega
  have hkw : IntKind.i64.wrap (k : Int) = (k : Int) := by rw [IntKind.wrap_i64]; omega
  have HX : Hid ((fun e w' => e = Ending.returned (.int .i64 (pickN a n : Int)) ∧ w' = w) (.returned (.int .i64 (k : Int))) w) := ⟨by unfold pickN; rw [hu, hkk], rfl⟩
  generalize (fun e w' => e = Ending.returned (.int .i64 (pickN a n : Int)) ∧ w' = w) = G at HX ⊢
  clear hkk hlt
  go_enter Tryd.func16, Tryd.ntmps16
  go_wp2
  exact HX.out
abbrev l3 : List Ms := [cn 0 3, cn 1 4, ⟨3, 2, 0, 1, 0, 0, [43], 0, [], []⟩]
theorem l3_lg : LG l3 [3, 4, 7] := by
  have i : ∀ x : Int, -9223372036854775808 ≤ x → x ≤ 9223372036854775807 → I64 x := fun x a b => ⟨a, b⟩
  have s1 := LG.nil.put (s := cn 0 3) (v := 3) ⟨rfl, rfl, rfl, by decide, i _ (by decide) (by decide), i _ (by decide) (by decide), i _ (by decide) (by decide), i _ (by decide) (by decide)⟩ (i _ (by decide) (by decide)) (.inl ⟨rfl, rfl⟩)
  have s2 := s1.put (s := cn 1 4) (v := 4) ⟨rfl, rfl, rfl, by decide, i _ (by decide) (by decide), i _ (by decide) (by decide), i _ (by decide) (by decide), i _ (by decide) (by decide)⟩ (i _ (by decide) (by decide)) (.inl ⟨rfl, rfl⟩)
  have s3 := s2.put (s := ⟨3, 2, 0, 1, 0, 0, [43], 0, [], []⟩) (v := 7) ⟨rfl, rfl, rfl, by decide, i _ (by decide) (by decide), i _ (by decide) (by decide), i _ (by decide) (by decide), i _ (by decide) (by decide)⟩ (i _ (by decide) (by decide)) (.inr (.inr ⟨rfl, by decide, by decide, by decide, by decide, by decide +kernel, by decide +kernel⟩))
  exact s3
theorem l3_good : Good 3 7 (l3 ++ [rt 2]) ∧ (∀ s ∈ l3 ++ [rt 2], s.code = 8 → s = rt s.a) ∧ ∀ s ∈ l3 ++ [rt 2], s.code = 3 → markB s.op = true := l3_lg.good (by decide) (by decide)
theorem fld39 (a b c : Value) (w : World) : (Instr.field 39 (.agg #[a, b, c]) 1).run Tryd.prog w = .ok b w := by kernel_rfl
abbrev lit40 : Array Value := #[.int .i64 1, .int .i64 0, .int .i64 0, .int .i64 0, .int .i64 0, .int .i64 3, .string ⟨#[]⟩, .int .i64 0, .string ⟨#[]⟩, .slice none 0 0, .int .i64 1, .int .i64 1, .int .i64 0, .int .i64 0, .int .i64 0, .int .i64 4, .string ⟨#[]⟩, .int .i64 0, .string ⟨#[]⟩, .slice none 0 0, .int .i64 3, .int .i64 2, .int .i64 0, .int .i64 1, .int .i64 0, .int .i64 0, .string ⟨#[43]⟩, .int .i64 0, .string ⟨#[]⟩, .slice none 0 0, .int .i64 8, .int .i64 0, .int .i64 2, .int .i64 0, .int .i64 0, .int .i64 0, .string ⟨#[]⟩, .int .i64 0, .string ⟨#[]⟩, .slice none 0 0]
theorem lit_row : lit40.toList = rowC (l3 ++ [rt 2]) := rfl
def FdP (w : World) (e : Ending) (w' : World) : Prop := e = .returned (.bool true) ∧ Below w.heap.size w w'
set_option maxRecDepth 100000 in
set_option maxHeartbeats 4000000 in
theorem folded_14 (w : World) (hff : FfE w) (hfm : FmE w) (hmk : MkE w) : Calls Tryd.prog 14 #[] w (FdP w) := by
  obtain ⟨W1, hW1⟩ : ∃ W1, W1 = w.alloc (.cells #[.int .i64 1, .int .i64 1, .int .i64 1] 3) := ⟨_, rfl⟩
  obtain ⟨W2, hW2⟩ : ∃ W2, W2 = W1.alloc (.cells lit40 44) := ⟨_, rfl⟩
  obtain ⟨W3, hW3⟩ : ∃ W3, W3 = W2.alloc (.cells #[.string yMain, .int .i64 0, .slice (some ⟨w.heap.size, 0, none⟩) 3 3, .slice (some ⟨w.heap.size + 1, 0, none⟩) 4 4] 35) := ⟨_, rfl⟩
  obtain ⟨W4, hW4⟩ : ∃ W4, W4 = W3.alloc (.cells #[.slice (some ⟨w.heap.size + 2, 0, none⟩) 1 1] 53) := ⟨_, rfl⟩
  have z1 : W1.heap.size = w.heap.size + 1 := by rw [hW1]; simp
  have z2 : W2.heap.size = w.heap.size + 2 := by rw [hW2]; simp [z1]
  have z3 : W3.heap.size = w.heap.size + 3 := by rw [hW3]; simp [z2]
  have hb4 : Below w.heap.size w W4 := by
    rw [hW4, hW3, hW2, hW1]
    exact ((((Below.refl _ _).alloc (Nat.le_refl _) _).alloc (by simp) _).alloc (by simp; omega) _).alloc (by simp; omega) _
  have k0 : W4.heap[w.heap.size]? = some (.cells #[.int .i64 1, .int .i64 1, .int .i64 1] 3) := by rw [hW4, row_eq_alloc (by omega), hW3, row_eq_alloc (by omega), hW2, row_eq_alloc (by omega), hW1, heap_alloc_last]
  have k1 : W4.heap[w.heap.size + 1]? = some (.cells lit40 44) := by rw [hW4, row_eq_alloc (by omega), hW3, row_eq_alloc (by omega), hW2, ← z1, heap_alloc_last]
  have k2 : W4.heap[w.heap.size + 2]? = some (.cells #[.string yMain, .int .i64 0, .slice (some ⟨w.heap.size, 0, none⟩) 3 3, .slice (some ⟨w.heap.size + 1, 0, none⟩) 4 4] 35) := by rw [hW4, row_eq_alloc (by omega), hW3, ← z2, heap_alloc_last]
  have k3 : W4.heap[w.heap.size + 3]? = some (.cells #[.slice (some ⟨w.heap.size + 2, 0, none⟩) 1 1] 53) := by rw [hW4, ← z3, heap_alloc_last]
  have hOne : OneF W4 (w.heap.size + 3) w.heap.size [1, 1, 1] (l3 ++ [rt 2]) := by
    refine ⟨w.heap.size + 2, 1, some ⟨w.heap.size, 0, none⟩, 3, some ⟨w.heap.size + 1, 0, none⟩, 4, cell_at (i := 0) k3 rfl, Nat.le_refl _, cell_at (i := 0) k2 rfl, cell_at (i := 1) k2 rfl, cell_at (i := 2) k2 rfl, cell_at (i := 3) k2 rfl, _, _, rfl, ⟨rfl, .inr ⟨_, 3, _, rfl, Nat.le_refl _, k0, Nat.le_refl _, by unfold maxLen; omega, rfl, rfl⟩⟩, ⟨rfl, .inr ⟨_, 4, _, rfl, by omega, k1, Nat.le_refl _, by unfold maxLen; omega, rfl, ?_⟩⟩⟩
    rw [← lit_row]
    rfl
  have ht1 : ∀ x ∈ ([1, 1, 1] : List Int), x = 1 := fun x hx => by simpa using hx
  have HFo : Hid (Calls Tryd.prog 17 #[ptr (w.heap.size + 3)] W4 (FoP W4 [1, 1, 1] 7)) := fold_17 W4 _ _ [1, 1, 1] (l3 ++ [rt 2]) 7 hOne (hff.below hb4) (hfm.below hb4) (hmk.below hb4) l3_good.1 l3_good.2.1 l3_good.2.2 ht1 (by decide)
  have HEn : Hid (FfE w ∧ FmE w ∧ MkE w ∧ Below w.heap.size w W4) := ⟨hff, hfm, hmk, hb4⟩
  have HG0 : Hid (∀ W, Below w.heap.size w W → FdP w (.returned (.bool true)) W) := fun W hb => ⟨rfl, hb⟩
  generalize FdP w = G at HG0 ⊢
  have hfld := fld39
  have e4 : W4 = (((w.alloc (.cells #[.int .i64 1, .int .i64 1, .int .i64 1] 3)).alloc (.cells lit40 44)).alloc (.cells #[.string yMain, .int .i64 0, .slice (some ⟨w.heap.size, 0, none⟩) 3 3, .slice (some ⟨w.heap.size + 1, 0, none⟩) 4 4] 35)).alloc (.cells #[.slice (some ⟨w.heap.size + 2, 0, none⟩) 1 1] 53) := by rw [hW4, hW3, hW2, hW1]
  clear hff hfm hmk z1 z2 z3 hb4 k0 k1 k2 k3 hOne hW4 hW3 hW2 hW1
  go_enter Tryd.func14, Tryd.ntmps14
  go_wp2_with (go_at_call 17; fail)
  rw [← e4]
  clear e4
  refine HFo.out.mono ?_
  rintro e w5 ⟨db, B5, l5, rfl, hb5, ho5, hl5⟩
  obtain ⟨q5, c5, hc5⟩ := one_code ho5 (hl5.good (by decide)) ht1 (by decide)
  have hr5 := good_right (hl5.good (by decide)) (fun s hs hc => by
    obtain ⟨r, _, _, rfl | rfl⟩ := hl5.mem s hs <;> cases hc) rfl ht1 (by decide)
  have HB5 : Hid (Below w.heap.size w w5 ∧ CodeAt w5 db q5 c5 [⟨mainB, 0, [1, 1, 1], l5⟩]) := ⟨HEn.out.2.2.2.trans (hb5.mono HEn.out.2.2.2.size), hc5⟩
  have HL5 : Hid (Lef 3 7 l5) := hl5
  have HRi : Hid (Calls Tryd.prog 8 #[ptr db] w5 (LkP true w5)) := by
    have := Right_any w5 db q5 c5 _ hc5 (HEn.out.2.1.below HB5.out.1) (HEn.out.2.2.1.below HB5.out.1)
    rwa [hr5] at this
  clear hb5 ho5 hl5 hc5 hr5 HFo
  go_wp2_with (go_at_call 8; fail)
  refine HRi.out.mono ?_
  rintro e w6 ⟨rfl, hb6⟩
  have HB6 : Hid (Below w.heap.size w w6 ∧ CodeAt w6 db q5 c5 [⟨mainB, 0, [1, 1, 1], l5⟩]) := ⟨HB5.out.1.trans (hb6.mono HB5.out.1.size), HB5.out.2.below hb6⟩
  obtain ⟨st, hst⟩ : ∃ st, stepsV [⟨mainB, 0, [1, 1, 1], l5⟩] = st := ⟨_, rfl⟩
  have hst2 : st ≤ 2 := by
    rw [← hst]
    have := HL5.out.le
    simp [stepsV]
    exact this
  have HSt : Hid (Calls Tryd.prog 10 #[ptr db] w6 (NmP st w6)) := by
    have := Steps_any w6 db q5 c5 _ HB6.out.2
    rwa [hst] at this
  clear hb6 hst HRi
  go_wp2_with (go_at_call 10; fail)
  refine HSt.out.mono ?_
  rintro e w7 ⟨rfl, hb7⟩
  have HB7 : Hid (Below w.heap.size w w7 ∧ CodeAt w7 db q5 c5 [⟨mainB, 0, [1, 1, 1], l5⟩]) := ⟨HB6.out.1.trans (hb7.mono HB6.out.1.size), HB6.out.2.below hb7⟩
  have HRn : Hid (Calls Tryd.prog 12 #[ptr db, .slice none 0 0, .int .i64 10] w7 (RnP (1, 7, []) w7)) := by
    have := Run_any w7 db q5 c5 _ (.slice none 0 0) [] 10 11 HB7.out.2 (HEn.out.2.1.below HB7.out.1) (HEn.out.2.2.1.below HB7.out.1) ⟨none, 0, rfl, .inl rfl⟩ (by decide) (by decide)
    rwa [lef_run HL5.out rfl ht1 (by decide)] at this
  have t2 : decide ((st : Int) ≤ 2) = true := decide_eq_true (by omega)
  clear hb7 HSt
  go_wp2_with (go_at_call 12; fail)
  refine HRn.out.mono ?_
  rintro e w8 ⟨p8, c8, rfl, ho8, hb8⟩
  have HX : Hid (G (.returned (.bool true)) w8) := HG0.out w8 (HB7.out.1.trans (hb8.mono HB7.out.1.size))
  clear ho8 hb8
  go_wp2
  exact HX.out
end Go.Proofs.YtjmbjpimabnohaaDoor.Mid
