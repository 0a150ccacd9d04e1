/- Package word's Decode, walked. -/
import Derived.Test.YtbobbmkmfcdeeaaDoorA7
namespace Go.Proofs.YtbobbmkmfcdeeaaDoor
open Go Go.RowKit Go.Sort

/-- The two tables: of op number o its kind and bits; of each kind its shape and its cells. -/
structure Tb where
  kd : Nat → Nat
  lo : Nat → Int
  md : Nat → Int
  hg : Nat → Int
  sh : Nat → Sh
  cs : Nat → List Value
  ph : Nat → Int

structure TbOk (T : Tb) : Prop where
  k8 : ∀ o, 1 ≤ o → o ≤ 31 → T.kd o < 8
  l0 : ∀ o, 0 ≤ T.lo o ∧ T.lo o < 128
  m0 : ∀ o, 0 ≤ T.md o ∧ T.md o < 8
  h0 : ∀ o, 0 ≤ T.hg o ∧ T.hg o < 128
  is : ∀ k, k < 8 → ShIs (T.cs k) (T.sh k)
  ok : ∀ k, k < 8 → ShOk (T.sh k)
  ph : ∀ k, k < 8 → (T.sh k).sg = true → (2 : Int) ^ ((T.sh k).wd.toNat - 1) = T.ph k

def Tabs (T : Tb) (w : World) : Prop := ∀ o, 1 ≤ o → o ≤ 31 → TabAt w o (T.kd o) (T.lo o) (T.md o) (T.hg o) (T.cs (T.kd o))
theorem Tabs.below {T : Tb} {w w' : World} (h : Tabs T w) (hb : Below w.heap.size w w') : Tabs T w' := fun o h1 h2 => (h o h1 h2).below hb

def hitB (T : Tb) (x : Int) (o : Nat) : Bool := bits .and .u32 x (T.sh (T.kd o)).fx == obV (T.lo o) (T.md o) (T.hg o)

theorem wpList_store_row {P : Program} {ops : Array Oper} {rest : List Oper} {op : Oper} {a : Act} {w : World} {Q : Exit → Act → World → Prop} (hgd : op.guard = none) (ty : TypeId) (x y : Operand) (ho : op.op = .store ty x y)
    (g : Nat) (t : TypeId) (old cells : Array Value) (hx : a.eval x = .pointer (some ⟨g, 0, none⟩)) (hy : a.eval y = .agg cells) (hg : w.heap[g]? = some (.cells old t (0, 0))) (hi : (P.info? ty).map (·.size) = some cells.size)
    (hl : old.size = cells.size) (h1 : cells.all (·.oneCell') = true) (h : wpList P ops Q rest (a.put op.dst undef) (w.setRow g cells)) : wpList P ops Q (op :: rest) a w :=
  wpList_plain hgd fun _ hK => wp_store_row ty x y ho g t old cells hx hy hg hi hl h1 (hK _ _ h)

theorem one5 (a b c d e : Int) : (#[Value.int .i64 a, .int .i64 b, .int .i64 c, .int .i64 d, .int .i64 e] : Array Value).all (·.oneCell') = true := by simp [Value.oneCell']

abbrev zero5 : Array Value := #[.int .i64 0, .int .i64 0, .int .i64 0, .int .i64 0, .int .i64 0]
def hitV (T : Tb) (x : Int) (o : Nat) : Value :=
  .tuple #[instV o (regV x 128 (T.sh (T.kd o)).rd) (regV x 32768 (T.sh (T.kd o)).ra) (regV x 1048576 (T.sh (T.kd o)).rb) (gatherV x (T.ph (T.kd o)) (T.sh (T.kd o))), .nilIface]

theorem res12 (tmps : Array Value) (w : World) (g : Nat) (a b c d e : Value) (hp : tmps.getD 2 undef = .pointer (some ⟨g, 0, none⟩)) (hg : w.heap[g]? = some (.cells #[a, b, c, d, e] 71)) :
    (results Tryd.f42 tmps).run Tryd.prog w = .ok (.tuple #[.agg #[a, b, c, d, e], tmps.getD 3 undef]) w := by
  rw [results_cell_tmp Tryd.results42, hp]
  have h1 : (loadVar 71 ⟨g, 0, none⟩).run Tryd.prog w = .ok (.agg #[a, b, c, d, e]) w := run_loadVar_row w g 71 71 _ (0, 0) _ hg Tryd.underlying71 rfl (by kernel_rfl)
  simp only [asAddr, Sem.run_pure, Result.andThen_ok, h1]

set_option maxRecDepth 100000 in
set_option maxHeartbeats 1000000 in
theorem decode_core (T : Tb) (hT : TbOk T) (x : Int) (R : Value) (w : World) (hx0 : 0 ≤ x) (hx1 : x < 4294967296) (ht : Tabs T w)
    (hHit : ∀ o, 1 ≤ o → o ≤ 31 → (∀ j, 1 ≤ j → j < o → hitB T x j = false) → hitB T x o = true → R = hitV T x o)
    (hNone : (∀ j, 1 ≤ j → j < 32 → hitB T x j = false) → R = .tuple #[.agg zero5, errV 3]) :
    Calls Tryd.prog 42 #[.int .u32 x] w fun e w' => e = .returned R ∧ Below w.heap.size w w' := by
  have HT : Hid (Tabs T w) := ht
  have HH : Hid (∀ o, 1 ≤ o → o ≤ 31 → (∀ j, 1 ≤ j → j < o → hitB T x j = false) → hitB T x o = true → R = hitV T x o) := hHit
  have HN : Hid ((∀ j, 1 ≤ j → j < 32 → hitB T x j = false) → R = .tuple #[.agg zero5, errV 3]) := hNone
  have hz1 : 1 < w.heap.size := (ht 1 (by omega) (by omega)).z1
  clear ht hHit hNone
  go_enter Tryd.func42, Tryd.ntmps42
  go_wp2_with fail
  go_loopw [3, 4] (fun e i wr => ∃ o : Nat, 1 ≤ o ∧ o ≤ 32 ∧ e = .nilIface ∧ i = .int .i64 o ∧ Hid (∀ j, 1 ≤ j → j < o → hitB T x j = false) ∧ Below (w.heap.size + 1) (w.alloc (.cells #[.int .i64 0, .int .i64 0, .int .i64 0, .int .i64 0, .int .i64 0] 71)) wr) (fun _ i _ => 32 - (intOf i).toNat)
  case atStart => exact ⟨1, by omega, by omega, rfl, rfl, fun j h1 h2 => by omega, Below.refl _ _⟩
  case round =>
    obtain ⟨o, ho1, ho, rfl, rfl, HJ, hb⟩ := hrel
    have HB : Hid (Below (w.heap.size + 1) (w.alloc (.cells #[.int .i64 0, .int .i64 0, .int .i64 0, .int .i64 0, .int .i64 0] 71)) wr) := hb
    have hzr : w.heap.size + 1 ≤ wr.heap.size := by have := hb.size; simp at this; exact this
    have HW : Hid (Below w.heap.size w wr) := ((Below.refl _ _).alloc (Nat.le_refl _) _).trans (hb.mono (by omega))
    have HROW : Hid (wr.heap[w.heap.size]? = some (.cells #[.int .i64 0, .int .i64 0, .int .i64 0, .int .i64 0, .int .i64 0] 71)) := by
      show _ = _
      rw [hb.block _ (by omega)]
      exact heap_alloc_last w _
    clear hb
    by_cases ho31 : o ≤ 31
    · have HTA : Hid (TabAt wr o (T.kd o) (T.lo o) (T.md o) (T.hg o) (T.cs (T.kd o))) := HT.out.below HW.out o ho1 ho31
      have HC : Hid (ShIs (T.cs (T.kd o)) (T.sh (T.kd o))) := hT.is _ (hT.k8 o ho1 ho31)
      have HS : Hid (ShOk (T.sh (T.kd o))) := hT.ok _ (hT.k8 o ho1 ho31)
      have hk8 := hT.k8 o ho1 ho31
      obtain ⟨hl, hl1⟩ := hT.l0 o
      obtain ⟨hm, hm1⟩ := hT.m0 o
      obtain ⟨hh, hh1⟩ := hT.h0 o
      have HP : Hid ((T.sh (T.kd o)).sg = true → (2 : Int) ^ ((T.sh (T.kd o)).wd.toNat - 1) = T.ph (T.kd o)) := hT.ph _ hk8
      have HHO : Hid (hitB T x o = true → R = hitV T x o) := fun h => HH.out o ho1 ho31 HJ.out h
      have HNX : Hid (hitB T x o = false → Hid (∀ j, 1 ≤ j → j < o + 1 → hitB T x j = false)) := fun h j h1 h2 => by
        by_cases e : j = o
        · subst e; exact h
        · exact HJ.out j h1 (by omega)
      unfold hitB at HHO HNX
      unfold hitV at HHO
      generalize T.cs (T.kd o) = cs at *
      generalize T.sh (T.kd o) = s at *
      generalize T.ph (T.kd o) = ph at *
      generalize T.kd o = k at *
      generalize T.lo o = l at *
      generalize T.md o = m at *
      generalize T.hg o = h at *
      have SZ : Hid ((Tryd.prog.info? 117).map (·.size) = some cs.length) := size61 HC.out
      have ONE : Hid (∀ v ∈ cs, v.oneCell' = true) := HC.out.one
      have hlen : cs.length = 19 := HC.out.len
      obtain ⟨z0, z1, f0, f1, f2, f3, rng⟩ := HTA.out
      have RNG : Hid (wr.rangeAt 1 (k * 19) cs) := rng
      clear rng
      have hoi : (o : Int) ≤ 31 := by omega
      go_upto_region 6 with (first
        | refine wpList_load_w rfl 117 _ rfl 1 (k * 19) rfl cs _ (by exact World.rangeAt_alloc RNG.out _) Tryd.underlying117 rfl SZ.out ?_
        | refine wpList_store_new rfl 117 _ _ rfl _ _ cs rfl rfl (by simp) SZ.out (by simp [hlen]) ONE.out ?_)
      have g6 := HC.out.g6
      have hr0 : ((wr.alloc (.cells #[.int .u8 (k : Int), .int .u8 l, .int .u8 m, .int .u8 h] 109)).alloc (.cells cs.toArray 117)).heap[wr.heap.size]? = some (.cells #[.int .u8 (k : Int), .int .u8 l, .int .u8 m, .int .u8 h] 109) := heap_alloc2_old _ _ _
      have hr1 : ((wr.alloc (.cells #[.int .u8 (k : Int), .int .u8 l, .int .u8 m, .int .u8 h] 109)).alloc (.cells cs.toArray 117)).heap[wr.heap.size + 1]? = some (.cells cs.toArray 117) := heap_alloc2_new _ _ _
      have q0 : ((wr.alloc (.cells #[.int .u8 (k : Int), .int .u8 l, .int .u8 m, .int .u8 h] 109)).alloc (.cells cs.toArray 117)).cell? ⟨wr.heap.size, 0, none⟩ = some (.int .u8 (k : Int)) := by rw [cell_of_row _ _ _ _ _ _ hr0]; rfl
      have q1 : ((wr.alloc (.cells #[.int .u8 (k : Int), .int .u8 l, .int .u8 m, .int .u8 h] 109)).alloc (.cells cs.toArray 117)).cell? ⟨wr.heap.size, 1, none⟩ = some (.int .u8 l) := by rw [cell_of_row _ _ _ _ _ _ hr0]; rfl
      have q2 : ((wr.alloc (.cells #[.int .u8 (k : Int), .int .u8 l, .int .u8 m, .int .u8 h] 109)).alloc (.cells cs.toArray 117)).cell? ⟨wr.heap.size, 2, none⟩ = some (.int .u8 m) := by rw [cell_of_row _ _ _ _ _ _ hr0]; rfl
      have q3 : ((wr.alloc (.cells #[.int .u8 (k : Int), .int .u8 l, .int .u8 m, .int .u8 h] 109)).alloc (.cells cs.toArray 117)).cell? ⟨wr.heap.size, 3, none⟩ = some (.int .u8 h) := by rw [cell_of_row _ _ _ _ _ _ hr0]; rfl
      have q6 : ((wr.alloc (.cells #[.int .u8 (k : Int), .int .u8 l, .int .u8 m, .int .u8 h] 109)).alloc (.cells cs.toArray 117)).cell? ⟨wr.heap.size + 1, 6, none⟩ = some (.int .u32 s.fx) := by rw [cell_of_row _ _ _ _ _ _ hr1]; simp [hlen, g6]
      have RW : Hid (((wr.alloc (.cells #[.int .u8 (k : Int), .int .u8 l, .int .u8 m, .int .u8 h] 109)).alloc (.cells cs.toArray 117)).rangeAt (wr.heap.size + 1) 0 cs) := rangeAt_new _ _ _ _ (by simp)
      have BW : Hid (Below (w.heap.size + 1) (w.alloc (.cells #[.int .i64 0, .int .i64 0, .int .i64 0, .int .i64 0, .int .i64 0] 71)) ((wr.alloc (.cells #[.int .u8 (k : Int), .int .u8 l, .int .u8 m, .int .u8 h] 109)).alloc (.cells cs.toArray 117))) := (HB.out.alloc hzr _).alloc (by simp; omega) _
      have LW : Hid (wr.heap.size + 1 < ((wr.alloc (.cells #[.int .u8 (k : Int), .int .u8 l, .int .u8 m, .int .u8 h] 109)).alloc (.cells cs.toArray 117)).heap.size) := by show _ < _; simp
      generalize ((wr.alloc (.cells #[.int .u8 (k : Int), .int .u8 l, .int .u8 m, .int .u8 h] 109)).alloc (.cells cs.toArray 117)) = W at *
      clear hr0 hr1 f0 f1 f2 f3 g6
      have k0 := cell_regrown q0
      have k1 := cell_regrown q1
      have k2 := cell_regrown q2
      have k3 := cell_regrown q3
      have k6 := cell_regrown q6
      have CO : Hid (∀ d os, Calls Tryd.prog 58 #[.agg #[.int .u8 (k : Int), .int .u8 l, .int .u8 m, .int .u8 h]] (grow (redrawn W d) os) fun e w'' => e = .returned (.int .u32 (obV l m h)) ∧ ∃ p : Regrown, w'' = grow (redrawn W p.d) p.os) :=
        fun d os => Calls.regrown_of (opBits_any _ _ _ _ _ hl hl1 hm hm1 hh hh1)
      clear q0 q1 q2 q3 q6
      simp only [Act.put]
      refine wp_region_quiet_below (by kernel_rfl) (by kernel_rfl) ?_
      repeat (quiet_step (exact CO.out _ _))
      refine wpQuiet_nil ?_
      intro _ hw'
      obtain ⟨⟨dq, osq⟩, hw''⟩ := hw'
      have B2 : Hid (Below W.heap.size W (grow (redrawn W dq) osq)) := below_regrown W dq osq
      rw [hw'']
      clear hw'' k0 k1 k2 k3 k6 CO
      generalize grow (redrawn W dq) osq = W2 at *
      have B3 : Hid (Below (w.heap.size + 1) (w.alloc (.cells #[.int .i64 0, .int .i64 0, .int .i64 0, .int .i64 0, .int .i64 0] 71)) W2) := BW.out.trans (B2.out.mono (by have := BW.out.size; simp at this; exact this))
      have hrow2 : W2.heap[w.heap.size]? = some (.cells #[.int .i64 0, .int .i64 0, .int .i64 0, .int .i64 0, .int .i64 0] 71) := by
        rw [B3.out.block _ (by omega)]
        exact heap_alloc_last w _
      have HR2 : Hid (W2.heap[w.heap.size]? = some (.cells #[.int .i64 0, .int .i64 0, .int .i64 0, .int .i64 0, .int .i64 0] 71)) := hrow2
      have RW2 : Hid (W2.rangeAt (wr.heap.size + 1) 0 cs) := rangeAt_below RW.out B2.out LW.out
      clear hrow2
      cases hH : bits .and .u32 x s.fx == obV l m h with
      | false =>
        have HX : Hid (Hid (∀ j, 1 ≤ j → j < o + 1 → hitB T x j = false)) := HNX.out hH
        clear HNX HHO
        go_wp2
        exact ⟨⟨o + 1, by omega, by omega, rfl, by go_num, HX.out, B3.out⟩, by simp [intOf]; omega⟩
      | true =>
        have HX : Hid (R = _) := HHO.out hH
        clear HNX HHO
        have LW2 : w.heap.size < W2.heap.size := by have := B3.out.size; simp at this; omega
        go_wp2_with (refine wpList_load_w rfl 117 _ rfl (wr.heap.size + 1) 0 rfl cs _ RW2.out Tryd.underlying117 rfl SZ.out ?_)
        refine (takeApart_any o x ph cs s W2 hx0 hx1 HC.out HS.out HP.out).mono ?_
        rintro e w3 ⟨rfl, hb3⟩
        have HR3 : Hid (w3.heap[w.heap.size]? = some (.cells #[.int .i64 0, .int .i64 0, .int .i64 0, .int .i64 0, .int .i64 0] 71)) := by
          show _ = _
          rw [hb3.block _ LW2]; exact HR2.out
        have B4 : Hid (Below w.heap.size w w3) := (((Below.refl _ _).alloc (Nat.le_refl _) _).trans (B3.out.mono (by omega))).trans (hb3.mono (by omega))
        clear hb3
        go_wp2_with (refine wpList_store_row rfl 71 _ _ rfl w.heap.size 71 _ _ rfl rfl HR3.out (by kernel_rfl) rfl (one5 _ _ _ _ _) ?_)
        rw [HX.out]
        refine bodyPost_ret (res12 _ _ w.heap.size _ _ _ _ _ rfl (setRow_heap w3 _ _ _ _ _ HR3.out)) rfl ⟨rfl, below_setRow B4.out (Nat.le_refl _) _⟩
    · have hoe : o = 32 := by omega
      subst hoe
      have HX : Hid (R = _) := HN.out HJ.out
      go_wp2_with (refine wpList_store_row rfl 71 _ _ rfl w.heap.size 71 _ _ rfl rfl HROW.out (by kernel_rfl) rfl (one5 _ _ _ _ _) ?_)
      rw [HX.out]
      exact bodyPost_ret (res12 _ _ w.heap.size _ _ _ _ _ rfl (setRow_heap wr _ _ _ _ _ HROW.out)) rfl ⟨rfl, below_setRow HW.out (Nat.le_refl _) _⟩
end Go.Proofs.YtbobbmkmfcdeeaaDoor
