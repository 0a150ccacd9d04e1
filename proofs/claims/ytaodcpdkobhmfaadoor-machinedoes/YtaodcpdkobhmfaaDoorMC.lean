/- Package word's takeApart, walked. Package word's Decode, walked. -/
import Derived.Test.YtaodcpdkobhmfaaDoorMB
import Derived.Deep.RegionHeld3
namespace Go.Proofs.YtaodcpdkobhmfaaDoor
open Go Go.RowKit Go.Sort

/-- What the region of takeApart reads, in a world. -/
def TkS (B : Nat) (rd ra rb : Bool) (cs : List Value) (w' : World) : Prop :=
  w'.cell? ⟨B, 0, none⟩ = some (.bool rd) ∧ w'.cell? ⟨B, 1, none⟩ = some (.bool ra) ∧ w'.cell? ⟨B, 2, none⟩ = some (.bool rb) ∧ w'.rangeAt B 0 cs
theorem TkS.below {B : Nat} {rd ra rb : Bool} {cs : List Value} {W w' : World} (h : TkS B rd ra rb cs W) (hb : Below W.heap.size W w') : TkS B rd ra rb cs w' := by
  obtain ⟨h0, h1, h2, h3⟩ := h
  have hB : B < W.heap.size := World.block_lt_of_cell? W _ h0
  exact ⟨(hb.cell (p := ⟨B, 0, none⟩) hB).trans h0, (hb.cell (p := ⟨B, 1, none⟩) hB).trans h1, (hb.cell (p := ⟨B, 2, none⟩) hB).trans h2, rangeAt_below h3 hb hB⟩
theorem TkS.set {B : Nat} {rd ra rb : Bool} {cs : List Value} {w' : World} (h : TkS B rd ra rb cs w') (i : Nat) (v : Value) : TkS B rd ra rb cs (w'.setCell ⟨B + 1, i, none⟩ v) := by
  obtain ⟨h0, h1, h2, h3⟩ := h
  have e : ∀ j, (w'.setCell ⟨B + 1, i, none⟩ v).cell? ⟨B, j, none⟩ = w'.cell? ⟨B, j, none⟩ := fun j => World.cell?_setCell_far w' _ _ v (by show B + 1 ≠ B; omega)
  exact ⟨(e 0).trans h0, (e 1).trans h1, (e 2).trans h2, fun j u hu => (e _).trans (h3 j u hu)⟩

theorem wp_store_row {P : Program} {op : Oper} {a : Act} {w : World} {K : Act → World → Prop} {Q : Exit → Act → World → Prop} (ty : TypeId) (x y : Operand) (ho : op.op = .store ty x y)
    (g : Nat) (t : TypeId) (old cells : Array Value) (hx : a.eval x = .pointer (some ⟨g, 0, none⟩)) (hy : a.eval y = .agg cells) (hg : w.heap[g]? = some (.cells old t (0, 0))) (hi : (P.info? ty).map (·.size) = some cells.size)
    (hl : old.size = cells.size) (h1 : cells.all (·.oneCell') = true) (h : K (a.put op.dst undef) (w.setRow g cells)) : op.wp P a w K Q := by
  unfold Oper.wp execOp
  simp only [ho, hx, hy, Instr.storeAt, Instr.sureAddr, Sem.run_bind, Sem.run_pure, Result.andThen_ok, run_storeVar_row w g t ty old cells hg hi hl h1]
  exact h

theorem below_setRow {B : Nat} {a w : World} (h : Below B a w) {g : Nat} (hg : B ≤ g) (cells : Array Value) : Below B a (w.setRow g cells) :=
  h.trans ⟨rfl, rfl, rfl, by simp, fun k hk => setRow_other w g k cells (by omega)⟩

theorem takeH {P : Program} {md : Region.Mode} {ops : Array Oper} {Q : Exit → Act → World → Prop} {S : World → Prop} {i : Nat} {oi : Oper} {v : Value} {fuel : Nat} {listed : Array Bool} {a : Act} {w : World} (hi : ops[i]? = some oi)
    (hs : Region.noSelect ops = true) (hf : Region.free md ops listed i = true) (hr : (Region.ready md ops listed).contains i = true)
    (hQ : ∀ c a w, Q (.panic c) (a.put oi.dst v) w → Q (.panic c) a w) (hw : Region.wanted oi (yielded ops a.tmps) = true) (hy : ∀ w, S w → (execOp a.eval oi).run P w = .ok (.value v) w) (hS : S w)
    (h : wpAnyH P md ops Q S fuel (listed.setIfInBounds i true) (a.put oi.dst v) w) : wpAnyH P md ops Q S (fuel + 1) listed a w :=
  wpAnyH_take hi hs hf hr hQ (Or.inl ⟨hw, hy⟩) hS h

set_option maxRecDepth 100000 in
set_option maxHeartbeats 1000000 in
theorem takeApart_core (op x G : Int) (rd ra rb : Bool) (cs : List Value) (w : World) (hlen : cs.length = 19)
    (g0 : ∀ h : 0 < cs.length, cs[0]'h = .bool rd) (g1 : ∀ h : 1 < cs.length, cs[1]'h = .bool ra) (g2 : ∀ h : 2 < cs.length, cs[2]'h = .bool rb)
    (hG : ∀ w1, Calls Tryd.prog 73 #[.int .u32 x, .agg cs.toArray] w1 fun e w' => e = .returned (.int .i64 G) ∧ Below w1.heap.size w1 w') :
    Calls Tryd.prog 61 #[.int .i64 op, .int .u32 x, .agg cs.toArray] w fun e w' => e = .returned (instV op (regV x 128 rd) (regV x 32768 ra) (regV x 1048576 rb) G) ∧ Below w.heap.size w w' := by
  have HG : Hid (∀ w1, Calls Tryd.prog 73 #[.int .u32 x, .agg cs.toArray] w1 fun e w' => e = .returned (.int .i64 G) ∧ Below w1.heap.size w1 w') := hG
  have SZ : Hid ((Tryd.prog.info? 117).map (·.size) = some cs.length) := by show _ = _; rw [hlen]; kernel_rfl
  clear hG
  go_enter Tryd.func61, Tryd.ntmps61
  go_wp2_with fail
  have XS : Hid (TkS w.heap.size rd ra rb cs ((w.alloc (.cells cs.toArray 117)).alloc (.cells #[.int .i64 0, .int .i64 0, .int .i64 0, .int .i64 0, .int .i64 0] 71)).drew) :=
    ⟨by simp [hlen, g0], by simp [hlen, g1], by simp [hlen, g2], by rw [World.rangeAt_drew]; exact World.rangeAt_alloc (rangeAt_new _ _ _ _ rfl) _⟩
  have HW : Hid (Below w.heap.size w ((w.alloc (.cells cs.toArray 117)).alloc (.cells #[.int .i64 0, .int .i64 0, .int .i64 0, .int .i64 0, .int .i64 0] 71)).drew) :=
    (((Below.refl _ _).alloc (Nat.le_refl _) _).alloc (by simp) _).drew
  have QZ : Hid (((w.alloc (.cells cs.toArray 117)).alloc (.cells #[.int .i64 0, .int .i64 0, .int .i64 0, .int .i64 0, .int .i64 0] 71)).drew.heap[w.heap.size + 1]? = some (.cells #[.int .i64 0, .int .i64 0, .int .i64 0, .int .i64 0, .int .i64 0] 71)) := by
    show _ = _
    rw [heap_drew]
    exact heap_alloc2_new _ _ _
  clear g0 g1 g2 hlen
  refine wp_region_held_drew (S := TkS w.heap.size rd ra rb cs) (by kernel_rfl) XS.out (fun hHeld => ?_)
  generalize ((w.alloc (.cells cs.toArray 117)).alloc (.cells #[.int .i64 0, .int .i64 0, .int .i64 0, .int .i64 0, .int .i64 0] 71)).drew = W at *
  clear XS
  refine wpAnyH_take (i := 14) (v := .agg cs.toArray) rfl (by kernel_rfl) (by kernel_rfl) (by kernel_rfl) (fun _ _ _ h => h) (yieldsIf_load_mid (by rfl) 117 _ rfl w.heap.size 0 rfl cs _ (fun w9 hSw => hSw.2.2.2) Tryd.underlying117 rfl SZ.out) hHeld ?_
  change wpAnyH _ _ _ _ _ _ _ { tmps := #[.int .i64 op, .int .u32 x, .agg cs.toArray, undef, undef, .pointer (some ⟨w.heap.size, 0, none⟩), .pointer (some ⟨w.heap.size + 1, 0, none⟩), undef, undef, undef, undef, undef, undef, undef, undef, undef, undef, undef, undef, undef, undef, .agg cs.toArray, undef, undef], defers := [] } W
  refine takeH (i := 0) (v := .int .i64 op) rfl (by kernel_rfl) (by kernel_rfl) (by kernel_rfl) (fun _ _ _ h => h) (by rfl) ?hy0 hHeld ?_
  case hy0 => (intro w9 hSw; rfl)
  change wpAnyH _ _ _ _ _ _ _ { tmps := #[.int .i64 op, .int .u32 x, .agg cs.toArray, undef, undef, .pointer (some ⟨w.heap.size, 0, none⟩), .pointer (some ⟨w.heap.size + 1, 0, none⟩), .int .i64 op, undef, undef, undef, undef, undef, undef, undef, undef, undef, undef, undef, undef, undef, .agg cs.toArray, undef, undef], defers := [] } W
  refine takeH (i := 1) (v := .int .u32 x) rfl (by kernel_rfl) (by kernel_rfl) (by kernel_rfl) (fun _ _ _ h => h) (by rfl) ?hy1 hHeld ?_
  case hy1 => (intro w9 hSw; rfl)
  change wpAnyH _ _ _ _ _ _ _ { tmps := #[.int .i64 op, .int .u32 x, .agg cs.toArray, undef, undef, .pointer (some ⟨w.heap.size, 0, none⟩), .pointer (some ⟨w.heap.size + 1, 0, none⟩), .int .i64 op, .int .u32 x, undef, undef, undef, undef, undef, undef, undef, undef, undef, undef, undef, undef, .agg cs.toArray, undef, undef], defers := [] } W
  refine takeH (i := 2) (v := .pointer (some ⟨w.heap.size, 0, none⟩)) rfl (by kernel_rfl) (by kernel_rfl) (by kernel_rfl) (fun _ _ _ h => h) (by rfl) ?hy2 hHeld ?_
  case hy2 => (intro w9 hSw; go_simp)
  change wpAnyH _ _ _ _ _ _ _ { tmps := #[.int .i64 op, .int .u32 x, .agg cs.toArray, undef, undef, .pointer (some ⟨w.heap.size, 0, none⟩), .pointer (some ⟨w.heap.size + 1, 0, none⟩), .int .i64 op, .int .u32 x, .pointer (some ⟨w.heap.size, 0, none⟩), undef, undef, undef, undef, undef, undef, undef, undef, undef, undef, undef, .agg cs.toArray, undef, undef], defers := [] } W
  refine takeH (i := 3) (v := .bool rd) rfl (by kernel_rfl) (by kernel_rfl) (by kernel_rfl) (fun _ _ _ h => h) (by rfl) ?hy3 hHeld ?_
  case hy3 => (intro w9 hSw; obtain ⟨s0, s1, s2, s3⟩ := hSw; clear s3; go_simp)
  change wpAnyH _ _ _ _ _ _ _ { tmps := #[.int .i64 op, .int .u32 x, .agg cs.toArray, undef, undef, .pointer (some ⟨w.heap.size, 0, none⟩), .pointer (some ⟨w.heap.size + 1, 0, none⟩), .int .i64 op, .int .u32 x, .pointer (some ⟨w.heap.size, 0, none⟩), .bool rd, undef, undef, undef, undef, undef, undef, undef, undef, undef, undef, .agg cs.toArray, undef, undef], defers := [] } W
  refine takeH (i := 5) (v := .int .u32 x) rfl (by kernel_rfl) (by kernel_rfl) (by kernel_rfl) (fun _ _ _ h => h) (by rfl) ?hy5 hHeld ?_
  case hy5 => (intro w9 hSw; rfl)
  change wpAnyH _ _ _ _ _ _ _ { tmps := #[.int .i64 op, .int .u32 x, .agg cs.toArray, undef, undef, .pointer (some ⟨w.heap.size, 0, none⟩), .pointer (some ⟨w.heap.size + 1, 0, none⟩), .int .i64 op, .int .u32 x, .pointer (some ⟨w.heap.size, 0, none⟩), .bool rd, undef, .int .u32 x, undef, undef, undef, undef, undef, undef, undef, undef, .agg cs.toArray, undef, undef], defers := [] } W
  refine takeH (i := 6) (v := .pointer (some ⟨w.heap.size, 1, none⟩)) rfl (by kernel_rfl) (by kernel_rfl) (by kernel_rfl) (fun _ _ _ h => h) (by rfl) ?hy6 hHeld ?_
  case hy6 => (intro w9 hSw; go_simp)
  change wpAnyH _ _ _ _ _ _ _ { tmps := #[.int .i64 op, .int .u32 x, .agg cs.toArray, undef, undef, .pointer (some ⟨w.heap.size, 0, none⟩), .pointer (some ⟨w.heap.size + 1, 0, none⟩), .int .i64 op, .int .u32 x, .pointer (some ⟨w.heap.size, 0, none⟩), .bool rd, undef, .int .u32 x, .pointer (some ⟨w.heap.size, 1, none⟩), undef, undef, undef, undef, undef, undef, undef, .agg cs.toArray, undef, undef], defers := [] } W
  refine takeH (i := 7) (v := .bool ra) rfl (by kernel_rfl) (by kernel_rfl) (by kernel_rfl) (fun _ _ _ h => h) (by rfl) ?hy7 hHeld ?_
  case hy7 => (intro w9 hSw; obtain ⟨s0, s1, s2, s3⟩ := hSw; clear s3; go_simp)
  change wpAnyH _ _ _ _ _ _ _ { tmps := #[.int .i64 op, .int .u32 x, .agg cs.toArray, undef, undef, .pointer (some ⟨w.heap.size, 0, none⟩), .pointer (some ⟨w.heap.size + 1, 0, none⟩), .int .i64 op, .int .u32 x, .pointer (some ⟨w.heap.size, 0, none⟩), .bool rd, undef, .int .u32 x, .pointer (some ⟨w.heap.size, 1, none⟩), .bool ra, undef, undef, undef, undef, undef, undef, .agg cs.toArray, undef, undef], defers := [] } W
  refine takeH (i := 9) (v := .int .u32 x) rfl (by kernel_rfl) (by kernel_rfl) (by kernel_rfl) (fun _ _ _ h => h) (by rfl) ?hy9 hHeld ?_
  case hy9 => (intro w9 hSw; rfl)
  change wpAnyH _ _ _ _ _ _ _ { tmps := #[.int .i64 op, .int .u32 x, .agg cs.toArray, undef, undef, .pointer (some ⟨w.heap.size, 0, none⟩), .pointer (some ⟨w.heap.size + 1, 0, none⟩), .int .i64 op, .int .u32 x, .pointer (some ⟨w.heap.size, 0, none⟩), .bool rd, undef, .int .u32 x, .pointer (some ⟨w.heap.size, 1, none⟩), .bool ra, undef, .int .u32 x, undef, undef, undef, undef, .agg cs.toArray, undef, undef], defers := [] } W
  refine takeH (i := 10) (v := .pointer (some ⟨w.heap.size, 2, none⟩)) rfl (by kernel_rfl) (by kernel_rfl) (by kernel_rfl) (fun _ _ _ h => h) (by rfl) ?hy10 hHeld ?_
  case hy10 => (intro w9 hSw; go_simp)
  change wpAnyH _ _ _ _ _ _ _ { tmps := #[.int .i64 op, .int .u32 x, .agg cs.toArray, undef, undef, .pointer (some ⟨w.heap.size, 0, none⟩), .pointer (some ⟨w.heap.size + 1, 0, none⟩), .int .i64 op, .int .u32 x, .pointer (some ⟨w.heap.size, 0, none⟩), .bool rd, undef, .int .u32 x, .pointer (some ⟨w.heap.size, 1, none⟩), .bool ra, undef, .int .u32 x, .pointer (some ⟨w.heap.size, 2, none⟩), undef, undef, undef, .agg cs.toArray, undef, undef], defers := [] } W
  refine takeH (i := 11) (v := .bool rb) rfl (by kernel_rfl) (by kernel_rfl) (by kernel_rfl) (fun _ _ _ h => h) (by rfl) ?hy11 hHeld ?_
  case hy11 => (intro w9 hSw; obtain ⟨s0, s1, s2, s3⟩ := hSw; clear s3; go_simp)
  change wpAnyH _ _ _ _ _ _ _ { tmps := #[.int .i64 op, .int .u32 x, .agg cs.toArray, undef, undef, .pointer (some ⟨w.heap.size, 0, none⟩), .pointer (some ⟨w.heap.size + 1, 0, none⟩), .int .i64 op, .int .u32 x, .pointer (some ⟨w.heap.size, 0, none⟩), .bool rd, undef, .int .u32 x, .pointer (some ⟨w.heap.size, 1, none⟩), .bool ra, undef, .int .u32 x, .pointer (some ⟨w.heap.size, 2, none⟩), .bool rb, undef, undef, .agg cs.toArray, undef, undef], defers := [] } W
  refine takeH (i := 13) (v := .int .u32 x) rfl (by kernel_rfl) (by kernel_rfl) (by kernel_rfl) (fun _ _ _ h => h) (by rfl) ?hy13 hHeld ?_
  case hy13 => (intro w9 hSw; rfl)
  change wpAnyH _ _ _ _ _ _ _ { tmps := #[.int .i64 op, .int .u32 x, .agg cs.toArray, undef, undef, .pointer (some ⟨w.heap.size, 0, none⟩), .pointer (some ⟨w.heap.size + 1, 0, none⟩), .int .i64 op, .int .u32 x, .pointer (some ⟨w.heap.size, 0, none⟩), .bool rd, undef, .int .u32 x, .pointer (some ⟨w.heap.size, 1, none⟩), .bool ra, undef, .int .u32 x, .pointer (some ⟨w.heap.size, 2, none⟩), .bool rb, undef, .int .u32 x, .agg cs.toArray, undef, undef], defers := [] } W
  refine wpAnyH_ready (rs := [4]) (by kernel_rfl) (by simp) ?_
  refine AllReadyH.cons rfl (fun K hK => ?_) AllReadyH.nil
  go_simp
  refine (register_any x 7 128 rd W (by omega) (by omega) rfl).mono ?_
  rintro e w' ⟨rfl, hww⟩
  replace hww := hww.symm
  subst hww
  refine hK.out _ _ ?_ (fun hHeld => ?_)
  · exact hHeld
  clear hK K
  change wpAnyH _ _ _ _ _ _ _ { tmps := #[.int .i64 op, .int .u32 x, .agg cs.toArray, undef, undef, .pointer (some ⟨w.heap.size, 0, none⟩), .pointer (some ⟨w.heap.size + 1, 0, none⟩), .int .i64 op, .int .u32 x, .pointer (some ⟨w.heap.size, 0, none⟩), .bool rd, .int .i64 (regV x 128 rd), .int .u32 x, .pointer (some ⟨w.heap.size, 1, none⟩), .bool ra, undef, .int .u32 x, .pointer (some ⟨w.heap.size, 2, none⟩), .bool rb, undef, .int .u32 x, .agg cs.toArray, undef, undef], defers := [] } W
  refine wpAnyH_ready (rs := [8]) (by kernel_rfl) (by simp) ?_
  refine AllReadyH.cons rfl (fun K hK => ?_) AllReadyH.nil
  go_simp
  refine (register_any x 15 32768 ra W (by omega) (by omega) rfl).mono ?_
  rintro e w' ⟨rfl, hww⟩
  replace hww := hww.symm
  subst hww
  refine hK.out _ _ ?_ (fun hHeld => ?_)
  · exact hHeld
  clear hK K
  change wpAnyH _ _ _ _ _ _ _ { tmps := #[.int .i64 op, .int .u32 x, .agg cs.toArray, undef, undef, .pointer (some ⟨w.heap.size, 0, none⟩), .pointer (some ⟨w.heap.size + 1, 0, none⟩), .int .i64 op, .int .u32 x, .pointer (some ⟨w.heap.size, 0, none⟩), .bool rd, .int .i64 (regV x 128 rd), .int .u32 x, .pointer (some ⟨w.heap.size, 1, none⟩), .bool ra, .int .i64 (regV x 32768 ra), .int .u32 x, .pointer (some ⟨w.heap.size, 2, none⟩), .bool rb, undef, .int .u32 x, .agg cs.toArray, undef, undef], defers := [] } W
  refine wpAnyH_ready (rs := [12]) (by kernel_rfl) (by simp) ?_
  refine AllReadyH.cons rfl (fun K hK => ?_) AllReadyH.nil
  go_simp
  refine (register_any x 20 1048576 rb W (by omega) (by omega) rfl).mono ?_
  rintro e w' ⟨rfl, hww⟩
  replace hww := hww.symm
  subst hww
  refine hK.out _ _ ?_ (fun hHeld => ?_)
  · exact hHeld
  clear hK K
  change wpAnyH _ _ _ _ _ _ _ { tmps := #[.int .i64 op, .int .u32 x, .agg cs.toArray, undef, undef, .pointer (some ⟨w.heap.size, 0, none⟩), .pointer (some ⟨w.heap.size + 1, 0, none⟩), .int .i64 op, .int .u32 x, .pointer (some ⟨w.heap.size, 0, none⟩), .bool rd, .int .i64 (regV x 128 rd), .int .u32 x, .pointer (some ⟨w.heap.size, 1, none⟩), .bool ra, .int .i64 (regV x 32768 ra), .int .u32 x, .pointer (some ⟨w.heap.size, 2, none⟩), .bool rb, .int .i64 (regV x 1048576 rb), .int .u32 x, .agg cs.toArray, undef, undef], defers := [] } W
  refine wpAnyH_ready (rs := [15]) (by kernel_rfl) (by simp) ?_
  refine AllReadyH.cons rfl (fun K hK => ?_) AllReadyH.nil
  go_simp
  refine (HG.out W).mono ?_
  rintro e w1 ⟨rfl, hb⟩
  refine hK.out _ _ ?_ (fun hHeld => ?_)
  · exact TkS.below hHeld hb
  clear hK K
  change wpAnyH _ _ _ _ _ _ _ { tmps := #[.int .i64 op, .int .u32 x, .agg cs.toArray, undef, undef, .pointer (some ⟨w.heap.size, 0, none⟩), .pointer (some ⟨w.heap.size + 1, 0, none⟩), .int .i64 op, .int .u32 x, .pointer (some ⟨w.heap.size, 0, none⟩), .bool rd, .int .i64 (regV x 128 rd), .int .u32 x, .pointer (some ⟨w.heap.size, 1, none⟩), .bool ra, .int .i64 (regV x 32768 ra), .int .u32 x, .pointer (some ⟨w.heap.size, 2, none⟩), .bool rb, .int .i64 (regV x 1048576 rb), .int .u32 x, .agg cs.toArray, .int .i64 G, undef], defers := [] } w1
  refine takeH (i := 16) (v := .agg #[.int .i64 op, .int .i64 (regV x 128 rd), .int .i64 (regV x 32768 ra), .int .i64 (regV x 1048576 rb), .int .i64 G]) rfl (by kernel_rfl) (by kernel_rfl) (by kernel_rfl) (fun _ _ _ h => h) (by rfl) ?hy16 hHeld ?_
  case hy16 => (intro w9 hSw; clear hSw; go_simp)
  change wpAnyH _ _ _ _ _ _ _ { tmps := #[.int .i64 op, .int .u32 x, .agg cs.toArray, undef, undef, .pointer (some ⟨w.heap.size, 0, none⟩), .pointer (some ⟨w.heap.size + 1, 0, none⟩), .int .i64 op, .int .u32 x, .pointer (some ⟨w.heap.size, 0, none⟩), .bool rd, .int .i64 (regV x 128 rd), .int .u32 x, .pointer (some ⟨w.heap.size, 1, none⟩), .bool ra, .int .i64 (regV x 32768 ra), .int .u32 x, .pointer (some ⟨w.heap.size, 2, none⟩), .bool rb, .int .i64 (regV x 1048576 rb), .int .u32 x, .agg cs.toArray, .int .i64 G, .agg #[.int .i64 op, .int .i64 (regV x 128 rd), .int .i64 (regV x 32768 ra), .int .i64 (regV x 1048576 rb), .int .i64 G]], defers := [] } w1
  have hq : w1.heap[w.heap.size + 1]? = some (.cells #[.int .i64 0, .int .i64 0, .int .i64 0, .int .i64 0, .int .i64 0] 71) := by
    have hl : w.heap.size + 1 < W.heap.size := (Array.getElem?_eq_some_iff.1 QZ.out).1
    rw [hb.block _ hl]; exact QZ.out
  refine wpAnyH_ready (rs := [17]) (by kernel_rfl) (by simp) ?_
  refine AllReadyH.cons rfl (fun K hK => ?_) AllReadyH.nil
  rw [if_pos (by rfl)]
  refine wp_store_row 71 _ _ rfl (w.heap.size + 1) 71 _ #[.int .i64 op, .int .i64 (regV x 128 rd), .int .i64 (regV x 32768 ra), .int .i64 (regV x 1048576 rb), .int .i64 G] rfl rfl hq (by kernel_rfl) rfl (by simp [Value.oneCell']) ?_
  have hS2 : TkS w.heap.size rd ra rb cs (w1.setRow (w.heap.size + 1) #[.int .i64 op, .int .i64 (regV x 128 rd), .int .i64 (regV x 32768 ra), .int .i64 (regV x 1048576 rb), .int .i64 G]) := by
    obtain ⟨s0, s1, s2, s3⟩ := hHeld
    have e : ∀ j, (w1.setRow (w.heap.size + 1) #[.int .i64 op, .int .i64 (regV x 128 rd), .int .i64 (regV x 32768 ra), .int .i64 (regV x 1048576 rb), .int .i64 G]).cell? ⟨w.heap.size, j, none⟩ = w1.cell? ⟨w.heap.size, j, none⟩ := fun j => cell_setRow_other w1 _ _ _ (by show w.heap.size ≠ w.heap.size + 1; omega)
    exact ⟨(e 0).trans s0, (e 1).trans s1, (e 2).trans s2, fun j u hu => (e _).trans (s3 j u hu)⟩
  refine hK.out _ _ hS2 (fun _ => ?_)
  clear hK K
  refine wpAnyH_done (by kernel_rfl) ?_ _
  go_wp2
  refine bodyPost_ret (v := instV op (regV x 128 rd) (regV x 32768 ra) (regV x 1048576 rb) G) ?_ rfl ⟨rfl, ?_⟩
  · exact results_cell_row (p := 6) (ty := 71) Tryd.results61 _ _ (w.heap.size + 1) 71 _ (0, 0) _ rfl (setRow_heap w1 _ _ _ _ _ hq) Tryd.underlying71 rfl (by kernel_rfl)
  · exact below_setRow (HW.out.trans (hb.mono HW.out.size)) (by omega) _

theorem takeApart_any (op x ph : Int) (cs : List Value) (s : Sh) (w : World) (hx0 : 0 ≤ x) (hx1 : x < 4294967296) (hc : ShIs cs s) (hs : ShOk s) (hp : s.sg = true → (2 : Int) ^ (s.wd.toNat - 1) = ph) :
    Calls Tryd.prog 61 #[.int .i64 op, .int .u32 x, .agg cs.toArray] w fun e w' => e = .returned (instV op (regV x 128 s.rd) (regV x 32768 s.ra) (regV x 1048576 s.rb) (gatherV x ph s)) ∧ Below w.heap.size w w' :=
  takeApart_core op x (gatherV x ph s) s.rd s.ra s.rb cs w hc.len hc.g0 hc.g1 hc.g2 (fun w1 => gather_any x ph cs s w1 hx0 hx1 hc hs hp)
end Go.Proofs.YtaodcpdkobhmfaaDoor

namespace Go.Proofs.YtaodcpdkobhmfaaDoor
open Go Go.RowKit Go.Sort

/-- The two tables: of op number o its kind and bits; of each kind its shape and its cells. -/
structure Tb where
  kd : Nat → Nat
  lo : Nat → Int
  md : Nat → Int
  hg : Nat → Int
  sh : Nat → Sh
  cs : Nat → List Value
  ph : Nat → Int

structure TbOk (T : Tb) : Prop where
  k8 : ∀ o, 1 ≤ o → o ≤ 31 → T.kd o < 8
  l0 : ∀ o, 0 ≤ T.lo o ∧ T.lo o < 128
  m0 : ∀ o, 0 ≤ T.md o ∧ T.md o < 8
  h0 : ∀ o, 0 ≤ T.hg o ∧ T.hg o < 128
  is : ∀ k, k < 8 → ShIs (T.cs k) (T.sh k)
  ok : ∀ k, k < 8 → ShOk (T.sh k)
  ph : ∀ k, k < 8 → (T.sh k).sg = true → (2 : Int) ^ ((T.sh k).wd.toNat - 1) = T.ph k

def Tabs (T : Tb) (w : World) : Prop := ∀ o, 1 ≤ o → o ≤ 31 → TabAt w o (T.kd o) (T.lo o) (T.md o) (T.hg o) (T.cs (T.kd o))
theorem Tabs.below {T : Tb} {w w' : World} (h : Tabs T w) (hb : Below w.heap.size w w') : Tabs T w' := fun o h1 h2 => (h o h1 h2).below hb

def hitB (T : Tb) (x : Int) (o : Nat) : Bool := bits .and .u32 x (T.sh (T.kd o)).fx == obV (T.lo o) (T.md o) (T.hg o)

theorem wpList_store_row {P : Program} {ops : Array Oper} {rest : List Oper} {op : Oper} {a : Act} {w : World} {Q : Exit → Act → World → Prop} (hgd : op.guard = none) (ty : TypeId) (x y : Operand) (ho : op.op = .store ty x y)
    (g : Nat) (t : TypeId) (old cells : Array Value) (hx : a.eval x = .pointer (some ⟨g, 0, none⟩)) (hy : a.eval y = .agg cells) (hg : w.heap[g]? = some (.cells old t (0, 0))) (hi : (P.info? ty).map (·.size) = some cells.size)
    (hl : old.size = cells.size) (h1 : cells.all (·.oneCell') = true) (h : wpList P ops Q rest (a.put op.dst undef) (w.setRow g cells)) : wpList P ops Q (op :: rest) a w :=
  wpList_plain hgd fun _ hK => wp_store_row ty x y ho g t old cells hx hy hg hi hl h1 (hK _ _ h)

theorem one5 (a b c d e : Int) : (#[Value.int .i64 a, .int .i64 b, .int .i64 c, .int .i64 d, .int .i64 e] : Array Value).all (·.oneCell') = true := by simp [Value.oneCell']

abbrev zero5 : Array Value := #[.int .i64 0, .int .i64 0, .int .i64 0, .int .i64 0, .int .i64 0]
def hitV (T : Tb) (x : Int) (o : Nat) : Value :=
  .tuple #[instV o (regV x 128 (T.sh (T.kd o)).rd) (regV x 32768 (T.sh (T.kd o)).ra) (regV x 1048576 (T.sh (T.kd o)).rb) (gatherV x (T.ph (T.kd o)) (T.sh (T.kd o))), .nilIface]

theorem res12 (tmps : Array Value) (w : World) (g : Nat) (a b c d e : Value) (hp : tmps.getD 2 undef = .pointer (some ⟨g, 0, none⟩)) (hg : w.heap[g]? = some (.cells #[a, b, c, d, e] 71)) :
    (results Tryd.f42 tmps).run Tryd.prog w = .ok (.tuple #[.agg #[a, b, c, d, e], tmps.getD 3 undef]) w := by
  rw [results_cell_tmp Tryd.results42, hp]
  have h1 : (loadVar 71 ⟨g, 0, none⟩).run Tryd.prog w = .ok (.agg #[a, b, c, d, e]) w := run_loadVar_row w g 71 71 _ (0, 0) _ hg Tryd.underlying71 rfl (by kernel_rfl)
  simp only [asAddr, Sem.run_pure, Result.andThen_ok, h1]

set_option maxRecDepth 100000 in
set_option maxHeartbeats 1000000 in
theorem decode_core (T : Tb) (hT : TbOk T) (x : Int) (R : Value) (w : World) (hx0 : 0 ≤ x) (hx1 : x < 4294967296) (ht : Tabs T w)
    (hHit : ∀ o, 1 ≤ o → o ≤ 31 → (∀ j, 1 ≤ j → j < o → hitB T x j = false) → hitB T x o = true → R = hitV T x o)
    (hNone : (∀ j, 1 ≤ j → j < 32 → hitB T x j = false) → R = .tuple #[.agg zero5, errV 3]) :
    Calls Tryd.prog 42 #[.int .u32 x] w fun e w' => e = .returned R ∧ Below w.heap.size w w' := by
  have HT : Hid (Tabs T w) := ht
  have HH : Hid (∀ o, 1 ≤ o → o ≤ 31 → (∀ j, 1 ≤ j → j < o → hitB T x j = false) → hitB T x o = true → R = hitV T x o) := hHit
  have HN : Hid ((∀ j, 1 ≤ j → j < 32 → hitB T x j = false) → R = .tuple #[.agg zero5, errV 3]) := hNone
  have hz1 : 1 < w.heap.size := (ht 1 (by omega) (by omega)).z1
  clear ht hHit hNone
  go_enter Tryd.func42, Tryd.ntmps42
  go_wp2_with fail
  go_loopw [3, 4] (fun e i wr => ∃ o : Nat, 1 ≤ o ∧ o ≤ 32 ∧ e = .nilIface ∧ i = .int .i64 o ∧ Hid (∀ j, 1 ≤ j → j < o → hitB T x j = false) ∧ Below (w.heap.size + 1) (w.alloc (.cells #[.int .i64 0, .int .i64 0, .int .i64 0, .int .i64 0, .int .i64 0] 71)) wr) (fun _ i _ => 32 - (intOf i).toNat)
  case atStart => exact ⟨1, by omega, by omega, rfl, rfl, fun j h1 h2 => by omega, Below.refl _ _⟩
  case round =>
    obtain ⟨o, ho1, ho, rfl, rfl, HJ, hb⟩ := hrel
    have HB : Hid (Below (w.heap.size + 1) (w.alloc (.cells #[.int .i64 0, .int .i64 0, .int .i64 0, .int .i64 0, .int .i64 0] 71)) wr) := hb
    have hzr : w.heap.size + 1 ≤ wr.heap.size := by have := hb.size; simp at this; exact this
    have HW : Hid (Below w.heap.size w wr) := ((Below.refl _ _).alloc (Nat.le_refl _) _).trans (hb.mono (by omega))
    have HROW : Hid (wr.heap[w.heap.size]? = some (.cells #[.int .i64 0, .int .i64 0, .int .i64 0, .int .i64 0, .int .i64 0] 71)) := by
      show _ = _
      rw [hb.block _ (by omega)]
      exact heap_alloc_last w _
    clear hb
    by_cases ho31 : o ≤ 31
    · have HTA : Hid (TabAt wr o (T.kd o) (T.lo o) (T.md o) (T.hg o) (T.cs (T.kd o))) := HT.out.below HW.out o ho1 ho31
      have HC : Hid (ShIs (T.cs (T.kd o)) (T.sh (T.kd o))) := hT.is _ (hT.k8 o ho1 ho31)
      have HS : Hid (ShOk (T.sh (T.kd o))) := hT.ok _ (hT.k8 o ho1 ho31)
      have hk8 := hT.k8 o ho1 ho31
      obtain ⟨hl, hl1⟩ := hT.l0 o
      obtain ⟨hm, hm1⟩ := hT.m0 o
      obtain ⟨hh, hh1⟩ := hT.h0 o
      have HP : Hid ((T.sh (T.kd o)).sg = true → (2 : Int) ^ ((T.sh (T.kd o)).wd.toNat - 1) = T.ph (T.kd o)) := hT.ph _ hk8
      have HHO : Hid (hitB T x o = true → R = hitV T x o) := fun h => HH.out o ho1 ho31 HJ.out h
      have HNX : Hid (hitB T x o = false → Hid (∀ j, 1 ≤ j → j < o + 1 → hitB T x j = false)) := fun h j h1 h2 => by
        by_cases e : j = o
        · subst e; exact h
        · exact HJ.out j h1 (by omega)
      unfold hitB at HHO HNX
      unfold hitV at HHO
      generalize T.cs (T.kd o) = cs at *
      generalize T.sh (T.kd o) = s at *
      generalize T.ph (T.kd o) = ph at *
      generalize T.kd o = k at *
      generalize T.lo o = l at *
      generalize T.md o = m at *
      generalize T.hg o = h at *
      have SZ : Hid ((Tryd.prog.info? 117).map (·.size) = some cs.length) := size61 HC.out
      have ONE : Hid (∀ v ∈ cs, v.oneCell' = true) := HC.out.one
      have hlen : cs.length = 19 := HC.out.len
      obtain ⟨z0, z1, f0, f1, f2, f3, rng⟩ := HTA.out
      have RNG : Hid (wr.rangeAt 1 (k * 19) cs) := rng
      clear rng
      have hoi : (o : Int) ≤ 31 := by omega
      go_upto_region 6 with (first
        | refine wpList_load_w rfl 117 _ rfl 1 (k * 19) rfl cs _ (by exact World.rangeAt_alloc RNG.out _) Tryd.underlying117 rfl SZ.out ?_
        | refine wpList_store_new rfl 117 _ _ rfl _ _ cs rfl rfl (by simp) SZ.out (by simp [hlen]) ONE.out ?_)
      have g6 := HC.out.g6
      have hr0 : ((wr.alloc (.cells #[.int .u8 (k : Int), .int .u8 l, .int .u8 m, .int .u8 h] 109)).alloc (.cells cs.toArray 117)).heap[wr.heap.size]? = some (.cells #[.int .u8 (k : Int), .int .u8 l, .int .u8 m, .int .u8 h] 109) := heap_alloc2_old _ _ _
      have hr1 : ((wr.alloc (.cells #[.int .u8 (k : Int), .int .u8 l, .int .u8 m, .int .u8 h] 109)).alloc (.cells cs.toArray 117)).heap[wr.heap.size + 1]? = some (.cells cs.toArray 117) := heap_alloc2_new _ _ _
      have q0 : ((wr.alloc (.cells #[.int .u8 (k : Int), .int .u8 l, .int .u8 m, .int .u8 h] 109)).alloc (.cells cs.toArray 117)).cell? ⟨wr.heap.size, 0, none⟩ = some (.int .u8 (k : Int)) := by rw [cell_of_row _ _ _ _ _ _ hr0]; rfl
      have q1 : ((wr.alloc (.cells #[.int .u8 (k : Int), .int .u8 l, .int .u8 m, .int .u8 h] 109)).alloc (.cells cs.toArray 117)).cell? ⟨wr.heap.size, 1, none⟩ = some (.int .u8 l) := by rw [cell_of_row _ _ _ _ _ _ hr0]; rfl
      have q2 : ((wr.alloc (.cells #[.int .u8 (k : Int), .int .u8 l, .int .u8 m, .int .u8 h] 109)).alloc (.cells cs.toArray 117)).cell? ⟨wr.heap.size, 2, none⟩ = some (.int .u8 m) := by rw [cell_of_row _ _ _ _ _ _ hr0]; rfl
      have q3 : ((wr.alloc (.cells #[.int .u8 (k : Int), .int .u8 l, .int .u8 m, .int .u8 h] 109)).alloc (.cells cs.toArray 117)).cell? ⟨wr.heap.size, 3, none⟩ = some (.int .u8 h) := by rw [cell_of_row _ _ _ _ _ _ hr0]; rfl
      have q6 : ((wr.alloc (.cells #[.int .u8 (k : Int), .int .u8 l, .int .u8 m, .int .u8 h] 109)).alloc (.cells cs.toArray 117)).cell? ⟨wr.heap.size + 1, 6, none⟩ = some (.int .u32 s.fx) := by rw [cell_of_row _ _ _ _ _ _ hr1]; simp [hlen, g6]
      have RW : Hid (((wr.alloc (.cells #[.int .u8 (k : Int), .int .u8 l, .int .u8 m, .int .u8 h] 109)).alloc (.cells cs.toArray 117)).rangeAt (wr.heap.size + 1) 0 cs) := rangeAt_new _ _ _ _ (by simp)
      have BW : Hid (Below (w.heap.size + 1) (w.alloc (.cells #[.int .i64 0, .int .i64 0, .int .i64 0, .int .i64 0, .int .i64 0] 71)) ((wr.alloc (.cells #[.int .u8 (k : Int), .int .u8 l, .int .u8 m, .int .u8 h] 109)).alloc (.cells cs.toArray 117))) := (HB.out.alloc hzr _).alloc (by simp; omega) _
      have LW : Hid (wr.heap.size + 1 < ((wr.alloc (.cells #[.int .u8 (k : Int), .int .u8 l, .int .u8 m, .int .u8 h] 109)).alloc (.cells cs.toArray 117)).heap.size) := by show _ < _; simp
      generalize ((wr.alloc (.cells #[.int .u8 (k : Int), .int .u8 l, .int .u8 m, .int .u8 h] 109)).alloc (.cells cs.toArray 117)) = W at *
      clear hr0 hr1 f0 f1 f2 f3 g6
      have k0 := cell_regrown q0
      have k1 := cell_regrown q1
      have k2 := cell_regrown q2
      have k3 := cell_regrown q3
      have k6 := cell_regrown q6
      have CO : Hid (∀ d os, Calls Tryd.prog 58 #[.agg #[.int .u8 (k : Int), .int .u8 l, .int .u8 m, .int .u8 h]] (grow (redrawn W d) os) fun e w'' => e = .returned (.int .u32 (obV l m h)) ∧ ∃ p : Regrown, w'' = grow (redrawn W p.d) p.os) :=
        fun d os => Calls.regrown_of (opBits_any _ _ _ _ _ hl hl1 hm hm1 hh hh1)
      clear q0 q1 q2 q3 q6
      simp only [Act.put]
      refine wp_region_quiet_below (by kernel_rfl) (by kernel_rfl) ?_
      repeat (quiet_step (exact CO.out _ _))
      refine wpQuiet_nil ?_
      intro _ hw'
      obtain ⟨⟨dq, osq⟩, hw''⟩ := hw'
      have B2 : Hid (Below W.heap.size W (grow (redrawn W dq) osq)) := below_regrown W dq osq
      rw [hw'']
      clear hw'' k0 k1 k2 k3 k6 CO
      generalize grow (redrawn W dq) osq = W2 at *
      have B3 : Hid (Below (w.heap.size + 1) (w.alloc (.cells #[.int .i64 0, .int .i64 0, .int .i64 0, .int .i64 0, .int .i64 0] 71)) W2) := BW.out.trans (B2.out.mono (by have := BW.out.size; simp at this; exact this))
      have hrow2 : W2.heap[w.heap.size]? = some (.cells #[.int .i64 0, .int .i64 0, .int .i64 0, .int .i64 0, .int .i64 0] 71) := by
        rw [B3.out.block _ (by omega)]
        exact heap_alloc_last w _
      have HR2 : Hid (W2.heap[w.heap.size]? = some (.cells #[.int .i64 0, .int .i64 0, .int .i64 0, .int .i64 0, .int .i64 0] 71)) := hrow2
      have RW2 : Hid (W2.rangeAt (wr.heap.size + 1) 0 cs) := rangeAt_below RW.out B2.out LW.out
      clear hrow2
      cases hH : bits .and .u32 x s.fx == obV l m h with
      | false =>
        have HX : Hid (Hid (∀ j, 1 ≤ j → j < o + 1 → hitB T x j = false)) := HNX.out hH
        clear HNX HHO
        go_wp2
        exact ⟨⟨o + 1, by omega, by omega, rfl, by go_num, HX.out, B3.out⟩, by simp [intOf]; omega⟩
      | true =>
        have HX : Hid (R = _) := HHO.out hH
        clear HNX HHO
        have LW2 : w.heap.size < W2.heap.size := by have := B3.out.size; simp at this; omega
        go_wp2_with (refine wpList_load_w rfl 117 _ rfl (wr.heap.size + 1) 0 rfl cs _ RW2.out Tryd.underlying117 rfl SZ.out ?_)
        refine (takeApart_any o x ph cs s W2 hx0 hx1 HC.out HS.out HP.out).mono ?_
        rintro e w3 ⟨rfl, hb3⟩
        have HR3 : Hid (w3.heap[w.heap.size]? = some (.cells #[.int .i64 0, .int .i64 0, .int .i64 0, .int .i64 0, .int .i64 0] 71)) := by
          show _ = _
          rw [hb3.block _ LW2]; exact HR2.out
        have B4 : Hid (Below w.heap.size w w3) := (((Below.refl _ _).alloc (Nat.le_refl _) _).trans (B3.out.mono (by omega))).trans (hb3.mono (by omega))
        clear hb3
        go_wp2_with (refine wpList_store_row rfl 71 _ _ rfl w.heap.size 71 _ _ rfl rfl HR3.out (by kernel_rfl) rfl (one5 _ _ _ _ _) ?_)
        rw [HX.out]
        refine bodyPost_ret (res12 _ _ w.heap.size _ _ _ _ _ rfl (setRow_heap w3 _ _ _ _ _ HR3.out)) rfl ⟨rfl, below_setRow B4.out (Nat.le_refl _) _⟩
    · have hoe : o = 32 := by omega
      subst hoe
      have HX : Hid (R = _) := HN.out HJ.out
      go_wp2_with (refine wpList_store_row rfl 71 _ _ rfl w.heap.size 71 _ _ rfl rfl HROW.out (by kernel_rfl) rfl (one5 _ _ _ _ _) ?_)
      rw [HX.out]
      exact bodyPost_ret (res12 _ _ w.heap.size _ _ _ _ _ rfl (setRow_heap wr _ _ _ _ _ HROW.out)) rfl ⟨rfl, below_setRow HW.out (Nat.le_refl _) _⟩
end Go.Proofs.YtaodcpdkobhmfaaDoor
