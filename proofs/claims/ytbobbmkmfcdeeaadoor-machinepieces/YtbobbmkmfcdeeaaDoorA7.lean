/- Package word's takeApart, walked. -/
import Derived.Test.YtbobbmkmfcdeeaaDoorA5
import Derived.Test.YtbobbmkmfcdeeaaDoorA6
import Derived.Deep.RegionHeld3
namespace Go.Proofs.YtbobbmkmfcdeeaaDoor
open Go Go.RowKit Go.Sort

/-- What the region of takeApart reads, in a world. -/
def TkS (B : Nat) (rd ra rb : Bool) (cs : List Value) (w' : World) : Prop :=
  w'.cell? ⟨B, 0, none⟩ = some (.bool rd) ∧ w'.cell? ⟨B, 1, none⟩ = some (.bool ra) ∧ w'.cell? ⟨B, 2, none⟩ = some (.bool rb) ∧ w'.rangeAt B 0 cs
theorem TkS.below {B : Nat} {rd ra rb : Bool} {cs : List Value} {W w' : World} (h : TkS B rd ra rb cs W) (hb : Below W.heap.size W w') : TkS B rd ra rb cs w' := by
  obtain ⟨h0, h1, h2, h3⟩ := h
  have hB : B < W.heap.size := World.block_lt_of_cell? W _ h0
  exact ⟨(hb.cell (p := ⟨B, 0, none⟩) hB).trans h0, (hb.cell (p := ⟨B, 1, none⟩) hB).trans h1, (hb.cell (p := ⟨B, 2, none⟩) hB).trans h2, rangeAt_below h3 hb hB⟩
theorem TkS.set {B : Nat} {rd ra rb : Bool} {cs : List Value} {w' : World} (h : TkS B rd ra rb cs w') (i : Nat) (v : Value) : TkS B rd ra rb cs (w'.setCell ⟨B + 1, i, none⟩ v) := by
  obtain ⟨h0, h1, h2, h3⟩ := h
  have e : ∀ j, (w'.setCell ⟨B + 1, i, none⟩ v).cell? ⟨B, j, none⟩ = w'.cell? ⟨B, j, none⟩ := fun j => World.cell?_setCell_far w' _ _ v (by show B + 1 ≠ B; omega)
  exact ⟨(e 0).trans h0, (e 1).trans h1, (e 2).trans h2, fun j u hu => (e _).trans (h3 j u hu)⟩

theorem wp_store_row {P : Program} {op : Oper} {a : Act} {w : World} {K : Act → World → Prop} {Q : Exit → Act → World → Prop} (ty : TypeId) (x y : Operand) (ho : op.op = .store ty x y)
    (g : Nat) (t : TypeId) (old cells : Array Value) (hx : a.eval x = .pointer (some ⟨g, 0, none⟩)) (hy : a.eval y = .agg cells) (hg : w.heap[g]? = some (.cells old t (0, 0))) (hi : (P.info? ty).map (·.size) = some cells.size)
    (hl : old.size = cells.size) (h1 : cells.all (·.oneCell') = true) (h : K (a.put op.dst undef) (w.setRow g cells)) : op.wp P a w K Q := by
  unfold Oper.wp execOp
  simp only [ho, hx, hy, Instr.storeAt, Instr.sureAddr, Sem.run_bind, Sem.run_pure, Result.andThen_ok, run_storeVar_row w g t ty old cells hg hi hl h1]
  exact h

theorem below_setRow {B : Nat} {a w : World} (h : Below B a w) {g : Nat} (hg : B ≤ g) (cells : Array Value) : Below B a (w.setRow g cells) :=
  h.trans ⟨rfl, rfl, rfl, by simp, fun k hk => setRow_other w g k cells (by omega)⟩

theorem takeH {P : Program} {md : Region.Mode} {ops : Array Oper} {Q : Exit → Act → World → Prop} {S : World → Prop} {i : Nat} {oi : Oper} {v : Value} {fuel : Nat} {listed : Array Bool} {a : Act} {w : World} (hi : ops[i]? = some oi)
    (hs : Region.noSelect ops = true) (hf : Region.free md ops listed i = true) (hr : (Region.ready md ops listed).contains i = true)
    (hQ : ∀ c a w, Q (.panic c) (a.put oi.dst v) w → Q (.panic c) a w) (hw : Region.wanted oi (yielded ops a.tmps) = true) (hy : ∀ w, S w → (execOp a.eval oi).run P w = .ok (.value v) w) (hS : S w)
    (h : wpAnyH P md ops Q S fuel (listed.setIfInBounds i true) (a.put oi.dst v) w) : wpAnyH P md ops Q S (fuel + 1) listed a w :=
  wpAnyH_take hi hs hf hr hQ (Or.inl ⟨hw, hy⟩) hS h

set_option maxRecDepth 100000 in
set_option maxHeartbeats 1000000 in
theorem takeApart_core (op x G : Int) (rd ra rb : Bool) (cs : List Value) (w : World) (hlen : cs.length = 19)
    (g0 : ∀ h : 0 < cs.length, cs[0]'h = .bool rd) (g1 : ∀ h : 1 < cs.length, cs[1]'h = .bool ra) (g2 : ∀ h : 2 < cs.length, cs[2]'h = .bool rb)
    (hG : ∀ w1, Calls Tryd.prog 73 #[.int .u32 x, .agg cs.toArray] w1 fun e w' => e = .returned (.int .i64 G) ∧ Below w1.heap.size w1 w') :
    Calls Tryd.prog 61 #[.int .i64 op, .int .u32 x, .agg cs.toArray] w fun e w' => e = .returned (instV op (regV x 128 rd) (regV x 32768 ra) (regV x 1048576 rb) G) ∧ Below w.heap.size w w' := by
  have HG : Hid (∀ w1, Calls Tryd.prog 73 #[.int .u32 x, .agg cs.toArray] w1 fun e w' => e = .returned (.int .i64 G) ∧ Below w1.heap.size w1 w') := hG
  have SZ : Hid ((Tryd.prog.info? 117).map (·.size) = some cs.length) := by show _ = _; rw [hlen]; kernel_rfl
  clear hG
  go_enter Tryd.func61, Tryd.ntmps61
  go_wp2_with fail
  have XS : Hid (TkS w.heap.size rd ra rb cs ((w.alloc (.cells cs.toArray 117)).alloc (.cells #[.int .i64 0, .int .i64 0, .int .i64 0, .int .i64 0, .int .i64 0] 71)).drew) :=
    ⟨by simp [hlen, g0], by simp [hlen, g1], by simp [hlen, g2], by rw [World.rangeAt_drew]; exact World.rangeAt_alloc (rangeAt_new _ _ _ _ rfl) _⟩
  have HW : Hid (Below w.heap.size w ((w.alloc (.cells cs.toArray 117)).alloc (.cells #[.int .i64 0, .int .i64 0, .int .i64 0, .int .i64 0, .int .i64 0] 71)).drew) :=
    (((Below.refl _ _).alloc (Nat.le_refl _) _).alloc (by simp) _).drew
  have QZ : Hid (((w.alloc (.cells cs.toArray 117)).alloc (.cells #[.int .i64 0, .int .i64 0, .int .i64 0, .int .i64 0, .int .i64 0] 71)).drew.heap[w.heap.size + 1]? = some (.cells #[.int .i64 0, .int .i64 0, .int .i64 0, .int .i64 0, .int .i64 0] 71)) := by
    show _ = _
    rw [heap_drew]
    exact heap_alloc2_new _ _ _
  clear g0 g1 g2 hlen
  refine wp_region_held_drew (S := TkS w.heap.size rd ra rb cs) (by kernel_rfl) XS.out (fun hHeld => ?_)
  generalize ((w.alloc (.cells cs.toArray 117)).alloc (.cells #[.int .i64 0, .int .i64 0, .int .i64 0, .int .i64 0, .int .i64 0] 71)).drew = W at *
  clear XS
  refine wpAnyH_take (i := 14) (v := .agg cs.toArray) rfl (by kernel_rfl) (by kernel_rfl) (by kernel_rfl) (fun _ _ _ h => h) (yieldsIf_load_mid (by rfl) 117 _ rfl w.heap.size 0 rfl cs _ (fun w9 hSw => hSw.2.2.2) Tryd.underlying117 rfl SZ.out) hHeld ?_
  change wpAnyH _ _ _ _ _ _ _ { tmps := #[.int .i64 op, .int .u32 x, .agg cs.toArray, undef, undef, .pointer (some ⟨w.heap.size, 0, none⟩), .pointer (some ⟨w.heap.size + 1, 0, none⟩), undef, undef, undef, undef, undef, undef, undef, undef, undef, undef, undef, undef, undef, undef, .agg cs.toArray, undef, undef], defers := [] } W
  refine takeH (i := 0) (v := .int .i64 op) rfl (by kernel_rfl) (by kernel_rfl) (by kernel_rfl) (fun _ _ _ h => h) (by rfl) ?hy0 hHeld ?_
  case hy0 => (intro w9 hSw; rfl)
  change wpAnyH _ _ _ _ _ _ _ { tmps := #[.int .i64 op, .int .u32 x, .agg cs.toArray, undef, undef, .pointer (some ⟨w.heap.size, 0, none⟩), .pointer (some ⟨w.heap.size + 1, 0, none⟩), .int .i64 op, undef, undef, undef, undef, undef, undef, undef, undef, undef, undef, undef, undef, undef, .agg cs.toArray, undef, undef], defers := [] } W
  refine takeH (i := 1) (v := .int .u32 x) rfl (by kernel_rfl) (by kernel_rfl) (by kernel_rfl) (fun _ _ _ h => h) (by rfl) ?hy1 hHeld ?_
  case hy1 => (intro w9 hSw; rfl)
  change wpAnyH _ _ _ _ _ _ _ { tmps := #[.int .i64 op, .int .u32 x, .agg cs.toArray, undef, undef, .pointer (some ⟨w.heap.size, 0, none⟩), .pointer (some ⟨w.heap.size + 1, 0, none⟩), .int .i64 op, .int .u32 x, undef, undef, undef, undef, undef, undef, undef, undef, undef, undef, undef, undef, .agg cs.toArray, undef, undef], defers := [] } W
  refine takeH (i := 2) (v := .pointer (some ⟨w.heap.size, 0, none⟩)) rfl (by kernel_rfl) (by kernel_rfl) (by kernel_rfl) (fun _ _ _ h => h) (by rfl) ?hy2 hHeld ?_
  case hy2 => (intro w9 hSw; go_simp)
  change wpAnyH _ _ _ _ _ _ _ { tmps := #[.int .i64 op, .int .u32 x, .agg cs.toArray, undef, undef, .pointer (some ⟨w.heap.size, 0, none⟩), .pointer (some ⟨w.heap.size + 1, 0, none⟩), .int .i64 op, .int .u32 x, .pointer (some ⟨w.heap.size, 0, none⟩), undef, undef, undef, undef, undef, undef, undef, undef, undef, undef, undef, .agg cs.toArray, undef, undef], defers := [] } W
  refine takeH (i := 3) (v := .bool rd) rfl (by kernel_rfl) (by kernel_rfl) (by kernel_rfl) (fun _ _ _ h => h) (by rfl) ?hy3 hHeld ?_
  case hy3 => (intro w9 hSw; obtain ⟨s0, s1, s2, s3⟩ := hSw; clear s3; go_simp)
  change wpAnyH _ _ _ _ _ _ _ { tmps := #[.int .i64 op, .int .u32 x, .agg cs.toArray, undef, undef, .pointer (some ⟨w.heap.size, 0, none⟩), .pointer (some ⟨w.heap.size + 1, 0, none⟩), .int .i64 op, .int .u32 x, .pointer (some ⟨w.heap.size, 0, none⟩), .bool rd, undef, undef, undef, undef, undef, undef, undef, undef, undef, undef, .agg cs.toArray, undef, undef], defers := [] } W
  refine takeH (i := 5) (v := .int .u32 x) rfl (by kernel_rfl) (by kernel_rfl) (by kernel_rfl) (fun _ _ _ h => h) (by rfl) ?hy5 hHeld ?_
  case hy5 => (intro w9 hSw; rfl)
  change wpAnyH _ _ _ _ _ _ _ { tmps := #[.int .i64 op, .int .u32 x, .agg cs.toArray, undef, undef, .pointer (some ⟨w.heap.size, 0, none⟩), .pointer (some ⟨w.heap.size + 1, 0, none⟩), .int .i64 op, .int .u32 x, .pointer (some ⟨w.heap.size, 0, none⟩), .bool rd, undef, .int .u32 x, undef, undef, undef, undef, undef, undef, undef, undef, .agg cs.toArray, undef, undef], defers := [] } W
  refine takeH (i := 6) (v := .pointer (some ⟨w.heap.size, 1, none⟩)) rfl (by kernel_rfl) (by kernel_rfl) (by kernel_rfl) (fun _ _ _ h => h) (by rfl) ?hy6 hHeld ?_
  case hy6 => (intro w9 hSw; go_simp)
  change wpAnyH _ _ _ _ _ _ _ { tmps := #[.int .i64 op, .int .u32 x, .agg cs.toArray, undef, undef, .pointer (some ⟨w.heap.size, 0, none⟩), .pointer (some ⟨w.heap.size + 1, 0, none⟩), .int .i64 op, .int .u32 x, .pointer (some ⟨w.heap.size, 0, none⟩), .bool rd, undef, .int .u32 x, .pointer (some ⟨w.heap.size, 1, none⟩), undef, undef, undef, undef, undef, undef, undef, .agg cs.toArray, undef, undef], defers := [] } W
  refine takeH (i := 7) (v := .bool ra) rfl (by kernel_rfl) (by kernel_rfl) (by kernel_rfl) (fun _ _ _ h => h) (by rfl) ?hy7 hHeld ?_
  case hy7 => (intro w9 hSw; obtain ⟨s0, s1, s2, s3⟩ := hSw; clear s3; go_simp)
  change wpAnyH _ _ _ _ _ _ _ { tmps := #[.int .i64 op, .int .u32 x, .agg cs.toArray, undef, undef, .pointer (some ⟨w.heap.size, 0, none⟩), .pointer (some ⟨w.heap.size + 1, 0, none⟩), .int .i64 op, .int .u32 x, .pointer (some ⟨w.heap.size, 0, none⟩), .bool rd, undef, .int .u32 x, .pointer (some ⟨w.heap.size, 1, none⟩), .bool ra, undef, undef, undef, undef, undef, undef, .agg cs.toArray, undef, undef], defers := [] } W
  refine takeH (i := 9) (v := .int .u32 x) rfl (by kernel_rfl) (by kernel_rfl) (by kernel_rfl) (fun _ _ _ h => h) (by rfl) ?hy9 hHeld ?_
  case hy9 => (intro w9 hSw; rfl)
  change wpAnyH _ _ _ _ _ _ _ { tmps := #[.int .i64 op, .int .u32 x, .agg cs.toArray, undef, undef, .pointer (some ⟨w.heap.size, 0, none⟩), .pointer (some ⟨w.heap.size + 1, 0, none⟩), .int .i64 op, .int .u32 x, .pointer (some ⟨w.heap.size, 0, none⟩), .bool rd, undef, .int .u32 x, .pointer (some ⟨w.heap.size, 1, none⟩), .bool ra, undef, .int .u32 x, undef, undef, undef, undef, .agg cs.toArray, undef, undef], defers := [] } W
  refine takeH (i := 10) (v := .pointer (some ⟨w.heap.size, 2, none⟩)) rfl (by kernel_rfl) (by kernel_rfl) (by kernel_rfl) (fun _ _ _ h => h) (by rfl) ?hy10 hHeld ?_
  case hy10 => (intro w9 hSw; go_simp)
  change wpAnyH _ _ _ _ _ _ _ { tmps := #[.int .i64 op, .int .u32 x, .agg cs.toArray, undef, undef, .pointer (some ⟨w.heap.size, 0, none⟩), .pointer (some ⟨w.heap.size + 1, 0, none⟩), .int .i64 op, .int .u32 x, .pointer (some ⟨w.heap.size, 0, none⟩), .bool rd, undef, .int .u32 x, .pointer (some ⟨w.heap.size, 1, none⟩), .bool ra, undef, .int .u32 x, .pointer (some ⟨w.heap.size, 2, none⟩), undef, undef, undef, .agg cs.toArray, undef, undef], defers := [] } W
  refine takeH (i := 11) (v := .bool rb) rfl (by kernel_rfl) (by kernel_rfl) (by kernel_rfl) (fun _ _ _ h => h) (by rfl) ?hy11 hHeld ?_
  case hy11 => (intro w9 hSw; obtain ⟨s0, s1, s2, s3⟩ := hSw; clear s3; go_simp)
  change wpAnyH _ _ _ _ _ _ _ { tmps := #[.int .i64 op, .int .u32 x, .agg cs.toArray, undef, undef, .pointer (some ⟨w.heap.size, 0, none⟩), .pointer (some ⟨w.heap.size + 1, 0, none⟩), .int .i64 op, .int .u32 x, .pointer (some ⟨w.heap.size, 0, none⟩), .bool rd, undef, .int .u32 x, .pointer (some ⟨w.heap.size, 1, none⟩), .bool ra, undef, .int .u32 x, .pointer (some ⟨w.heap.size, 2, none⟩), .bool rb, undef, undef, .agg cs.toArray, undef, undef], defers := [] } W
  refine takeH (i := 13) (v := .int .u32 x) rfl (by kernel_rfl) (by kernel_rfl) (by kernel_rfl) (fun _ _ _ h => h) (by rfl) ?hy13 hHeld ?_
  case hy13 => (intro w9 hSw; rfl)
  change wpAnyH _ _ _ _ _ _ _ { tmps := #[.int .i64 op, .int .u32 x, .agg cs.toArray, undef, undef, .pointer (some ⟨w.heap.size, 0, none⟩), .pointer (some ⟨w.heap.size + 1, 0, none⟩), .int .i64 op, .int .u32 x, .pointer (some ⟨w.heap.size, 0, none⟩), .bool rd, undef, .int .u32 x, .pointer (some ⟨w.heap.size, 1, none⟩), .bool ra, undef, .int .u32 x, .pointer (some ⟨w.heap.size, 2, none⟩), .bool rb, undef, .int .u32 x, .agg cs.toArray, undef, undef], defers := [] } W
  refine wpAnyH_ready (rs := [4]) (by kernel_rfl) (by simp) ?_
  refine AllReadyH.cons rfl (fun K hK => ?_) AllReadyH.nil
  go_simp
  refine (register_any x 7 128 rd W (by omega) (by omega) rfl).mono ?_
  rintro e w' ⟨rfl, hww⟩
  replace hww := hww.symm
  subst hww
  refine hK.out _ _ ?_ (fun hHeld => ?_)
  · exact hHeld
  clear hK K
  change wpAnyH _ _ _ _ _ _ _ { tmps := #[.int .i64 op, .int .u32 x, .agg cs.toArray, undef, undef, .pointer (some ⟨w.heap.size, 0, none⟩), .pointer (some ⟨w.heap.size + 1, 0, none⟩), .int .i64 op, .int .u32 x, .pointer (some ⟨w.heap.size, 0, none⟩), .bool rd, .int .i64 (regV x 128 rd), .int .u32 x, .pointer (some ⟨w.heap.size, 1, none⟩), .bool ra, undef, .int .u32 x, .pointer (some ⟨w.heap.size, 2, none⟩), .bool rb, undef, .int .u32 x, .agg cs.toArray, undef, undef], defers := [] } W
  refine wpAnyH_ready (rs := [8]) (by kernel_rfl) (by simp) ?_
  refine AllReadyH.cons rfl (fun K hK => ?_) AllReadyH.nil
  go_simp
  refine (register_any x 15 32768 ra W (by omega) (by omega) rfl).mono ?_
  rintro e w' ⟨rfl, hww⟩
  replace hww := hww.symm
  subst hww
  refine hK.out _ _ ?_ (fun hHeld => ?_)
  · exact hHeld
  clear hK K
  change wpAnyH _ _ _ _ _ _ _ { tmps := #[.int .i64 op, .int .u32 x, .agg cs.toArray, undef, undef, .pointer (some ⟨w.heap.size, 0, none⟩), .pointer (some ⟨w.heap.size + 1, 0, none⟩), .int .i64 op, .int .u32 x, .pointer (some ⟨w.heap.size, 0, none⟩), .bool rd, .int .i64 (regV x 128 rd), .int .u32 x, .pointer (some ⟨w.heap.size, 1, none⟩), .bool ra, .int .i64 (regV x 32768 ra), .int .u32 x, .pointer (some ⟨w.heap.size, 2, none⟩), .bool rb, undef, .int .u32 x, .agg cs.toArray, undef, undef], defers := [] } W
  refine wpAnyH_ready (rs := [12]) (by kernel_rfl) (by simp) ?_
  refine AllReadyH.cons rfl (fun K hK => ?_) AllReadyH.nil
  go_simp
  refine (register_any x 20 1048576 rb W (by omega) (by omega) rfl).mono ?_
  rintro e w' ⟨rfl, hww⟩
  replace hww := hww.symm
  subst hww
  refine hK.out _ _ ?_ (fun hHeld => ?_)
  · exact hHeld
  clear hK K
  change wpAnyH _ _ _ _ _ _ _ { tmps := #[.int .i64 op, .int .u32 x, .agg cs.toArray, undef, undef, .pointer (some ⟨w.heap.size, 0, none⟩), .pointer (some ⟨w.heap.size + 1, 0, none⟩), .int .i64 op, .int .u32 x, .pointer (some ⟨w.heap.size, 0, none⟩), .bool rd, .int .i64 (regV x 128 rd), .int .u32 x, .pointer (some ⟨w.heap.size, 1, none⟩), .bool ra, .int .i64 (regV x 32768 ra), .int .u32 x, .pointer (some ⟨w.heap.size, 2, none⟩), .bool rb, .int .i64 (regV x 1048576 rb), .int .u32 x, .agg cs.toArray, undef, undef], defers := [] } W
  refine wpAnyH_ready (rs := [15]) (by kernel_rfl) (by simp) ?_
  refine AllReadyH.cons rfl (fun K hK => ?_) AllReadyH.nil
  go_simp
  refine (HG.out W).mono ?_
  rintro e w1 ⟨rfl, hb⟩
  refine hK.out _ _ ?_ (fun hHeld => ?_)
  · exact TkS.below hHeld hb
  clear hK K
  change wpAnyH _ _ _ _ _ _ _ { tmps := #[.int .i64 op, .int .u32 x, .agg cs.toArray, undef, undef, .pointer (some ⟨w.heap.size, 0, none⟩), .pointer (some ⟨w.heap.size + 1, 0, none⟩), .int .i64 op, .int .u32 x, .pointer (some ⟨w.heap.size, 0, none⟩), .bool rd, .int .i64 (regV x 128 rd), .int .u32 x, .pointer (some ⟨w.heap.size, 1, none⟩), .bool ra, .int .i64 (regV x 32768 ra), .int .u32 x, .pointer (some ⟨w.heap.size, 2, none⟩), .bool rb, .int .i64 (regV x 1048576 rb), .int .u32 x, .agg cs.toArray, .int .i64 G, undef], defers := [] } w1
  refine takeH (i := 16) (v := .agg #[.int .i64 op, .int .i64 (regV x 128 rd), .int .i64 (regV x 32768 ra), .int .i64 (regV x 1048576 rb), .int .i64 G]) rfl (by kernel_rfl) (by kernel_rfl) (by kernel_rfl) (fun _ _ _ h => h) (by rfl) ?hy16 hHeld ?_
  case hy16 => (intro w9 hSw; clear hSw; go_simp)
  change wpAnyH _ _ _ _ _ _ _ { tmps := #[.int .i64 op, .int .u32 x, .agg cs.toArray, undef, undef, .pointer (some ⟨w.heap.size, 0, none⟩), .pointer (some ⟨w.heap.size + 1, 0, none⟩), .int .i64 op, .int .u32 x, .pointer (some ⟨w.heap.size, 0, none⟩), .bool rd, .int .i64 (regV x 128 rd), .int .u32 x, .pointer (some ⟨w.heap.size, 1, none⟩), .bool ra, .int .i64 (regV x 32768 ra), .int .u32 x, .pointer (some ⟨w.heap.size, 2, none⟩), .bool rb, .int .i64 (regV x 1048576 rb), .int .u32 x, .agg cs.toArray, .int .i64 G, .agg #[.int .i64 op, .int .i64 (regV x 128 rd), .int .i64 (regV x 32768 ra), .int .i64 (regV x 1048576 rb), .int .i64 G]], defers := [] } w1
  have hq : w1.heap[w.heap.size + 1]? = some (.cells #[.int .i64 0, .int .i64 0, .int .i64 0, .int .i64 0, .int .i64 0] 71) := by
    have hl : w.heap.size + 1 < W.heap.size := (Array.getElem?_eq_some_iff.1 QZ.out).1
    rw [hb.block _ hl]; exact QZ.out
  refine wpAnyH_ready (rs := [17]) (by kernel_rfl) (by simp) ?_
  refine AllReadyH.cons rfl (fun K hK => ?_) AllReadyH.nil
  rw [if_pos (by rfl)]
  refine wp_store_row 71 _ _ rfl (w.heap.size + 1) 71 _ #[.int .i64 op, .int .i64 (regV x 128 rd), .int .i64 (regV x 32768 ra), .int .i64 (regV x 1048576 rb), .int .i64 G] rfl rfl hq (by kernel_rfl) rfl (by simp [Value.oneCell']) ?_
  have hS2 : TkS w.heap.size rd ra rb cs (w1.setRow (w.heap.size + 1) #[.int .i64 op, .int .i64 (regV x 128 rd), .int .i64 (regV x 32768 ra), .int .i64 (regV x 1048576 rb), .int .i64 G]) := by
    obtain ⟨s0, s1, s2, s3⟩ := hHeld
    have e : ∀ j, (w1.setRow (w.heap.size + 1) #[.int .i64 op, .int .i64 (regV x 128 rd), .int .i64 (regV x 32768 ra), .int .i64 (regV x 1048576 rb), .int .i64 G]).cell? ⟨w.heap.size, j, none⟩ = w1.cell? ⟨w.heap.size, j, none⟩ := fun j => cell_setRow_other w1 _ _ _ (by show w.heap.size ≠ w.heap.size + 1; omega)
    exact ⟨(e 0).trans s0, (e 1).trans s1, (e 2).trans s2, fun j u hu => (e _).trans (s3 j u hu)⟩
  refine hK.out _ _ hS2 (fun _ => ?_)
  clear hK K
  refine wpAnyH_done (by kernel_rfl) ?_ _
  go_wp2
  refine bodyPost_ret (v := instV op (regV x 128 rd) (regV x 32768 ra) (regV x 1048576 rb) G) ?_ rfl ⟨rfl, ?_⟩
  · exact results_cell_row (p := 6) (ty := 71) Tryd.results61 _ _ (w.heap.size + 1) 71 _ (0, 0) _ rfl (setRow_heap w1 _ _ _ _ _ hq) Tryd.underlying71 rfl (by kernel_rfl)
  · exact below_setRow (HW.out.trans (hb.mono HW.out.size)) (by omega) _

theorem takeApart_any (op x ph : Int) (cs : List Value) (s : Sh) (w : World) (hx0 : 0 ≤ x) (hx1 : x < 4294967296) (hc : ShIs cs s) (hs : ShOk s) (hp : s.sg = true → (2 : Int) ^ (s.wd.toNat - 1) = ph) :
    Calls Tryd.prog 61 #[.int .i64 op, .int .u32 x, .agg cs.toArray] w fun e w' => e = .returned (instV op (regV x 128 s.rd) (regV x 32768 s.ra) (regV x 1048576 s.rb) (gatherV x ph s)) ∧ Below w.heap.size w w' :=
  takeApart_core op x (gatherV x ph s) s.rd s.ra s.rb cs w hc.len hc.g0 hc.g1 hc.g2 (fun w1 => gather_any x ph cs s w1 hx0 hx1 hc hs hp)
end Go.Proofs.YtbobbmkmfcdeeaaDoor
