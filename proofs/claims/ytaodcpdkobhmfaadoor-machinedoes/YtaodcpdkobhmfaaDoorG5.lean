/- Which instruction a word is, as a function; package machine's fetch, walked. -/
import Derived.Test.YtaodcpdkobhmfaaDoorGA
import Derived.Test.YtaodcpdkobhmfaaDoorC1
namespace Go.Proofs.YtaodcpdkobhmfaaDoor
open Go Go.RowKit

/-- An instruction. -/
structure In where
  o : Int
  d : Int
  a : Int
  b : Int
  n : Int

abbrev In.v (x : In) : Value := instV x.o x.d x.a x.b x.n
abbrev In.rt (x : In) : Bool := Rt x.o x.d x.a x.b x.n
abbrev In.wd (x : In) : Int := Wd x.o x.d x.a x.b x.n

/-- What is read of a word of op j. -/
def insAt (x : Int) (j : Nat) : In := ⟨j, regV x 128 (T.sh (T.kd j)).rd, regV x 32768 (T.sh (T.kd j)).ra, regV x 1048576 (T.sh (T.kd j)).rb, gatherV x (T.ph (T.kd j)) (T.sh (T.kd j))⟩
/-- The first op whose form a word has. -/
def opAt (x : Int) : Option Nat := (List.range 32).find? fun j => decide (1 ≤ j) && hitB T x j
/-- The instruction of which Encode tells this word. -/
def decV (x : Int) : Option In := if 0 ≤ x ∧ x < 4294967296 then (opAt x).map (insAt x) else none

theorem opAt_some {x : Int} {j : Nat} (h : opAt x = some j) : 1 ≤ j ∧ j < 32 ∧ hitB T x j = true := by
  have h1 := List.find?_some h
  have h2 := List.mem_of_find?_eq_some h
  simp at h1 h2
  exact ⟨h1.1, h2, h1.2⟩

theorem decV_some {x : Int} {i : In} (h : decV x = some i) : i.rt = true ∧ i.wd = x := by
  unfold decV at h
  split at h
  · rename_i hx
    cases hj : opAt x with
    | none => rw [hj] at h; simp at h
    | some j =>
      rw [hj] at h
      simp only [Option.map_some, Option.some.injEq] at h
      subst h
      obtain ⟨j1, j2, hit⟩ := opAt_some hj
      obtain ⟨W, rfl⟩ := Int.eq_ofNat_of_zero_le hx.1
      have hlt : W < 4294967296 := by omega
      obtain ⟨r1, r2⟩ := dec_all j j1 (by omega) W hlt ((hitB_iff W j).1 hit)
      constructor
      · show Rt _ _ _ _ _ = true
        unfold Rt insAt
        simp only
        rw [Int.toNat_natCast, r1]
        simp
        omega
      · show Wd _ _ _ _ _ = _
        unfold Wd insAt
        simp only
        rw [Int.toNat_natCast]
        exact r2
  · cases h

theorem decV_wd (i : In) (h : i.rt = true) : decV i.wd = some i := by
  obtain ⟨o, d, a, b, n⟩ := i
  have h' : Rt o d a b n = true := h
  obtain ⟨h1, h2, h3⟩ := Rt_split h'
  obtain ⟨k, rfl⟩ := Int.eq_ofNat_of_zero_le (show 0 ≤ o by omega)
  rw [Int.toNat_natCast] at h3
  obtain ⟨W, hlt, e1, hit, e2, e3, e4, e5⟩ := enc_all k (by omega) (by omega) d a b n h3
  have hw : In.wd ⟨(k : Int), d, a, b, n⟩ = (W : Int) := by
    show Wd _ _ _ _ _ = _
    unfold Wd
    rw [Int.toNat_natCast]
    exact e1
  rw [hw]
  unfold decV
  rw [if_pos (by omega)]
  cases hj : opAt (W : Int) with
  | none =>
    exfalso
    have hn := List.find?_eq_none.1 hj k (by simp; omega)
    rw [(hitB_iff W k).2 hit] at hn
    simp at hn
    omega
  | some j =>
    obtain ⟨j1, j2, hit'⟩ := opAt_some hj
    have hjk : j = k := hit_one j k j1 (by omega) (by omega) (by omega) W hlt ((hitB_iff W j).1 hit') hit
    subst hjk
    simp only [Option.map_some, insAt]
    rw [e2, e3, e4, e5]

theorem decV_none {x : Int} (h : decV x = none) (i : In) (hr : i.rt = true) : i.wd ≠ x := by
  intro e
  rw [← e, decV_wd i hr] at h
  cases h

theorem decode_of_some (x : Int) (i : In) (w : World) (ht : Tabs T w) (h : decV x = some i) :
    Calls Tryd.prog 42 #[.int .u32 x] w fun e w' => e = .returned (.tuple #[i.v, .nilIface]) ∧ Below w.heap.size w w' := by
  obtain ⟨h1, h2⟩ := decV_some h
  subst h2
  exact decode_back i.o i.d i.a i.b i.n w ht h1

theorem decode_of_none (x : Int) (w : World) (ht : Tabs T w) (hx0 : 0 ≤ x) (hx1 : x < 4294967296) (h : decV x = none) :
    Calls Tryd.prog 42 #[.int .u32 x] w fun e w' => e = .returned (.tuple #[instV 0 0 0 0 0, errV 3]) ∧ Below w.heap.size w w' := by
  by_cases hn : NoOp x
  · exact decode_none x w hx0 hx1 ht hn
  · obtain ⟨o, d, a, b, n, hr, hw, _⟩ := decode_some x hx0 hx1 hn
    exact absurd hw (decV_none h ⟨o, d, a, b, n⟩ hr)

/-- The tables, behind a call that turned other blocks. -/
theorem Tabs.off {w w' : World} (h : Tabs T w) {S : Nat → Prop} (ho : Off S w w') (h0 : ¬ S 0) (h1 : ¬ S 1) : Tabs T w' := fun o a b => by
  have t := h o a b
  have c0 : ∀ j, w'.cell? ⟨0, j, none⟩ = w.cell? ⟨0, j, none⟩ := fun j => ho.cell (p := ⟨0, j, none⟩) t.z0 h0
  exact ⟨Nat.lt_of_lt_of_le t.z0 ho.size, Nat.lt_of_lt_of_le t.z1 ho.size, (c0 _).trans t.f0, (c0 _).trans t.f1, (c0 _).trans t.f2, (c0 _).trans t.f3, fun j v hv => by
    rw [ho.cell (p := ⟨1, _, none⟩) t.z1 h1]; exact t.rng j v hv⟩

theorem frozen_row {w : World} {g : Nat} {cs : Array Value} {t : TypeId} (h : w.heap[g]? = some (.cells cs t (0, 0))) (i : Nat) : w.frozen? ⟨g, i, none⟩ = false := by
  simp [World.frozen?, h]

theorem below5 {g : Nat} {a w : World} (h : Below g a w) (v0 v1 v2 v3 v4 : Value) :
    Below g a (((((w.setCell ⟨g, 0, none⟩ v0).setCell ⟨g, 1, none⟩ v1).setCell ⟨g, 2, none⟩ v2).setCell ⟨g, 3, none⟩ v3).setCell ⟨g, 4, none⟩ v4) :=
  ((((h.setCell (p := ⟨g, 0, none⟩) (Nat.le_refl g) v0).setCell (p := ⟨g, 1, none⟩) (Nat.le_refl g) v1).setCell (p := ⟨g, 2, none⟩) (Nat.le_refl g) v2).setCell (p := ⟨g, 3, none⟩) (Nat.le_refl g) v3).setCell (p := ⟨g, 4, none⟩) (Nat.le_refl g) v4

/-- What is fetched. -/
def fetV (L : Nat) (M : Nat → Int) (pc : Int) : Option In := if hasB L pc 4 then decV (gthTo M pc.toNat 4) else none

theorem res29 (tmps : Array Value) (w : World) (g : Nat) (a b c d e : Value) (hp : tmps.getD 2 undef = .pointer (some ⟨g, 0, none⟩)) (hg : w.heap[g]? = some (.cells #[a, b, c, d, e] 71)) :
    (results Tryd.f29 tmps).run Tryd.prog w = .ok (.tuple #[.agg #[a, b, c, d, e], tmps.getD 3 undef]) w := by
  rw [results_cell_tmp Tryd.results29, hp]
  have h1 : (loadVar 71 ⟨g, 0, none⟩).run Tryd.prog w = .ok (.agg #[a, b, c, d, e]) w := run_loadVar_row w g 71 71 _ (0, 0) _ hg Tryd.underlying71 rfl (by kernel_rfl)
  simp only [asAddr, Sem.run_pure, Result.andThen_ok, h1]

set_option maxHeartbeats 1000000 in
theorem fetch_out (w : World) (s mb L : Nat) (m : MS) (gv ov : Value) (h : Core w s mb L m gv ov) (ha : hasB L m.pc 4 = false) :
    Calls Tryd.prog 29 #[.pointer (some ⟨s, 0, none⟩)] w fun e w' => e = .returned (.tuple #[instV 0 0 0 0 0, .bool false]) ∧ Below w.heap.size w w' := by
  have HC : Hid (Core w s mb L m gv ov) := h
  have HA : Hid (hasB L m.pc 4 = false) := ha
  have hp := h.pc
  have hs := h.s0
  have hm := h.mem
  have hL := h.L1
  generalize m.pc = pc at *
  clear h ha
  go_enter Tryd.func29, Tryd.ntmps29
  go_wp2_with (go_at_call 37; fail)
  refine (has_any _ s mb L _ _ (.inl rfl) hL ((World.cell?_alloc_lt _ _ _ hs).trans hm)).mono ?_
  rw [HA.out]
  rintro e w' ⟨rfl, rfl⟩
  go_wp2_with fail
  exact bodyPost_ret (res29 _ _ w.heap.size _ _ _ _ _ rfl (heap_alloc_last w _)) rfl ⟨rfl, (Below.refl _ _).alloc (Nat.le_refl _) _⟩

set_option maxHeartbeats 1000000 in
theorem fetch_hit (w : World) (s mb L : Nat) (m : MS) (gv ov : Value) (h : Core w s mb L m gv ov) (ha : hasB L m.pc 4 = true) (o d a b n : Int)
    (hD : ∀ w', Below w.heap.size w w' → Calls Tryd.prog 42 #[.int .u32 (gthTo m.M m.pc.toNat 4)] w' fun e w'' => e = .returned (.tuple #[instV o d a b n, .nilIface]) ∧ Below w'.heap.size w' w'') :
    Calls Tryd.prog 29 #[.pointer (some ⟨s, 0, none⟩)] w fun e w' => e = .returned (.tuple #[instV o d a b n, .bool true]) ∧ Below w.heap.size w w' := by
  have HC : Hid (Core w s mb L m gv ov) := h
  have HA : Hid (hasB L m.pc 4 = true) := ha
  have HD : Hid (∀ w', Below w.heap.size w w' → Calls Tryd.prog 42 #[.int .u32 (gthTo m.M m.pc.toNat 4)] w' fun e w'' => e = .returned (.tuple #[instV o d a b n, .nilIface]) ∧ Below w'.heap.size w' w'') := hD
  have hp := h.pc
  have hs := h.s0
  have hm := h.mem
  have hL := h.L1
  obtain ⟨a0, a1, a2⟩ := has_split ha
  clear h ha hD
  generalize m.pc = pc at *
  obtain ⟨pc, rfl⟩ := Int.eq_ofNat_of_zero_le a0
  simp only [Int.toNat_natCast] at HD
  have rg := gth_range m.M pc 4 (fun i hi => HC.out.M0 (pc + i) (by omega))
  have BA : Hid (Below w.heap.size w (w.alloc (.cells #[.int .i64 0, .int .i64 0, .int .i64 0, .int .i64 0, .int .i64 0] 71))) := (Below.refl _ _).alloc (Nat.le_refl _) _
  have CA : Hid (Core (w.alloc (.cells #[.int .i64 0, .int .i64 0, .int .i64 0, .int .i64 0, .int .i64 0] 71)) s mb L m gv ov) := HC.out.off (S := fun _ => False) (Off.of_below BA.out) (fun h => h) (fun h => h)
  have HG : Hid (∀ w', Core w' s mb L m gv ov → Calls Tryd.prog 38 #[.pointer (some ⟨s, 0, none⟩), .int .i64 (pc : Int), .int .i64 4] w' fun e w'' => e = .returned (.int .u64 (gthTo m.M pc 4)) ∧ w'' = w') := fun w' h => mgather_any w' s mb L pc 4 m.M (.inl rfl) h.L1 (by omega) h.mem h.byt h.M0
  generalize gthTo m.M pc 4 = g at *
  go_enter Tryd.func29, Tryd.ntmps29
  go_wp2_with (first
    | (go_at_call 37; refine (has_any _ s mb L _ _ (.inl rfl) hL ((World.cell?_alloc_lt _ _ _ hs).trans hm)).mono ?_; rw [HA.out]; rintro e w' ⟨rfl, rfl⟩)
    | (go_at_call 38; refine (HG.out _ CA.out).mono ?_; rintro e w' ⟨rfl, rfl⟩)
    | (go_at_call 42; fail))
  refine (HD.out _ BA.out).mono ?_
  rintro e w1 ⟨rfl, hb⟩
  have R1 : Hid (w1.heap[w.heap.size]? = some (.cells #[.int .i64 0, .int .i64 0, .int .i64 0, .int .i64 0, .int .i64 0] 71)) := by
    show _ = _
    rw [hb.block _ (by simp)]; exact heap_alloc_last w _
  have B1 : Hid (Below w.heap.size w w1) := BA.out.trans (hb.mono (by simp))
  have L1 : w.heap.size < w1.heap.size := by have := hb.size; simp at this; omega
  clear hb CA BA
  go_wp2_with fail
  have R2 : (w1.alloc (.cells #[.int .i64 o, .int .i64 d, .int .i64 a, .int .i64 b, .int .i64 n] 71)).heap[w.heap.size]? = some (.cells #[.int .i64 0, .int .i64 0, .int .i64 0, .int .i64 0, .int .i64 0] 71) := by
    rw [Below.heap_alloc _ _ _ L1]; exact R1.out
  have R3 : (w1.alloc (.cells #[.int .i64 o, .int .i64 d, .int .i64 a, .int .i64 b, .int .i64 n] 71)).heap[w1.heap.size]? = some (.cells #[.int .i64 o, .int .i64 d, .int .i64 a, .int .i64 b, .int .i64 n] 71) := heap_alloc_last w1 _
  have B2 : Hid (Below w.heap.size w (w1.alloc (.cells #[.int .i64 o, .int .i64 d, .int .i64 a, .int .i64 b, .int .i64 n] 71))) := B1.out.alloc (by omega) _
  generalize w1.alloc (.cells #[.int .i64 o, .int .i64 d, .int .i64 a, .int .i64 b, .int .i64 n] 71) = W at *
  generalize w1.heap.size = g1 at *
  clear B1 R1
  have y0 : W.cell? ⟨g1, 0, none⟩ = some (.int .i64 o) := by rw [cell_of_row _ _ _ _ _ _ R3]; rfl
  have y1 : W.cell? ⟨g1, 1, none⟩ = some (.int .i64 d) := by rw [cell_of_row _ _ _ _ _ _ R3]; rfl
  have y2 : W.cell? ⟨g1, 2, none⟩ = some (.int .i64 a) := by rw [cell_of_row _ _ _ _ _ _ R3]; rfl
  have y3 : W.cell? ⟨g1, 3, none⟩ = some (.int .i64 b) := by rw [cell_of_row _ _ _ _ _ _ R3]; rfl
  have y4 : W.cell? ⟨g1, 4, none⟩ = some (.int .i64 n) := by rw [cell_of_row _ _ _ _ _ _ R3]; rfl
  have z0 : W.cell? ⟨w.heap.size, 0, none⟩ = some (.int .i64 0) := by rw [cell_of_row _ _ _ _ _ _ R2]; rfl
  have z1 : W.cell? ⟨w.heap.size, 1, none⟩ = some (.int .i64 0) := by rw [cell_of_row _ _ _ _ _ _ R2]; rfl
  have z2 : W.cell? ⟨w.heap.size, 2, none⟩ = some (.int .i64 0) := by rw [cell_of_row _ _ _ _ _ _ R2]; rfl
  have z3 : W.cell? ⟨w.heap.size, 3, none⟩ = some (.int .i64 0) := by rw [cell_of_row _ _ _ _ _ _ R2]; rfl
  have z4 : W.cell? ⟨w.heap.size, 4, none⟩ = some (.int .i64 0) := by rw [cell_of_row _ _ _ _ _ _ R2]; rfl
  have zf : ∀ i, W.frozen? ⟨w.heap.size, i, none⟩ = false := fun i => frozen_row R2 i
  have HR2 : Hid (W.heap[w.heap.size]? = some (.cells #[.int .i64 0, .int .i64 0, .int .i64 0, .int .i64 0, .int .i64 0] 71)) := R2
  clear R2 R3
  generalize hg0 : w.heap.size = g0 at *
  have HG0 : Hid (w.heap.size = g0) := hg0
  clear hg0
  go_region
  go_wp2_with fail
  refine bodyPost_ret (res29 _ _ g0 _ _ _ _ _ rfl ?_) rfl ⟨rfl, ?_⟩
  · exact heap_setCell_same _ g0 4 _ 71 (.int .i64 n) (heap_setCell_same _ g0 3 _ 71 (.int .i64 b) (heap_setCell_same _ g0 2 _ 71 (.int .i64 a) (heap_setCell_same _ g0 1 _ 71 (.int .i64 d) (heap_setCell_same W g0 0 _ 71 (.int .i64 o) HR2.out))))
  · rw [HG0.out]; exact (below5 B2.out _ _ _ _ _).drew

set_option maxHeartbeats 1000000 in
theorem fetch_miss (w : World) (s mb L : Nat) (m : MS) (gv ov : Value) (h : Core w s mb L m gv ov) (ha : hasB L m.pc 4 = true) (o d a b n : Int)
    (hD : ∀ w', Below w.heap.size w w' → Calls Tryd.prog 42 #[.int .u32 (gthTo m.M m.pc.toNat 4)] w' fun e w'' => e = .returned (.tuple #[instV o d a b n, errV 3]) ∧ Below w'.heap.size w' w'') :
    Calls Tryd.prog 29 #[.pointer (some ⟨s, 0, none⟩)] w fun e w' => e = .returned (.tuple #[instV o d a b n, .bool false]) ∧ Below w.heap.size w w' := by
  have HC : Hid (Core w s mb L m gv ov) := h
  have HA : Hid (hasB L m.pc 4 = true) := ha
  have HD : Hid (∀ w', Below w.heap.size w w' → Calls Tryd.prog 42 #[.int .u32 (gthTo m.M m.pc.toNat 4)] w' fun e w'' => e = .returned (.tuple #[instV o d a b n, errV 3]) ∧ Below w'.heap.size w' w'') := hD
  have hp := h.pc
  have hs := h.s0
  have hm := h.mem
  have hL := h.L1
  obtain ⟨a0, a1, a2⟩ := has_split ha
  clear h ha hD
  generalize m.pc = pc at *
  obtain ⟨pc, rfl⟩ := Int.eq_ofNat_of_zero_le a0
  simp only [Int.toNat_natCast] at HD
  have rg := gth_range m.M pc 4 (fun i hi => HC.out.M0 (pc + i) (by omega))
  have BA : Hid (Below w.heap.size w (w.alloc (.cells #[.int .i64 0, .int .i64 0, .int .i64 0, .int .i64 0, .int .i64 0] 71))) := (Below.refl _ _).alloc (Nat.le_refl _) _
  have CA : Hid (Core (w.alloc (.cells #[.int .i64 0, .int .i64 0, .int .i64 0, .int .i64 0, .int .i64 0] 71)) s mb L m gv ov) := HC.out.off (S := fun _ => False) (Off.of_below BA.out) (fun h => h) (fun h => h)
  have HG : Hid (∀ w', Core w' s mb L m gv ov → Calls Tryd.prog 38 #[.pointer (some ⟨s, 0, none⟩), .int .i64 (pc : Int), .int .i64 4] w' fun e w'' => e = .returned (.int .u64 (gthTo m.M pc 4)) ∧ w'' = w') := fun w' h => mgather_any w' s mb L pc 4 m.M (.inl rfl) h.L1 (by omega) h.mem h.byt h.M0
  generalize gthTo m.M pc 4 = g at *
  go_enter Tryd.func29, Tryd.ntmps29
  go_wp2_with (first
    | (go_at_call 37; refine (has_any _ s mb L _ _ (.inl rfl) hL ((World.cell?_alloc_lt _ _ _ hs).trans hm)).mono ?_; rw [HA.out]; rintro e w' ⟨rfl, rfl⟩)
    | (go_at_call 38; refine (HG.out _ CA.out).mono ?_; rintro e w' ⟨rfl, rfl⟩)
    | (go_at_call 42; fail))
  refine (HD.out _ BA.out).mono ?_
  rintro e w1 ⟨rfl, hb⟩
  have R1 : Hid (w1.heap[w.heap.size]? = some (.cells #[.int .i64 0, .int .i64 0, .int .i64 0, .int .i64 0, .int .i64 0] 71)) := by
    show _ = _
    rw [hb.block _ (by simp)]; exact heap_alloc_last w _
  have B1 : Hid (Below w.heap.size w w1) := BA.out.trans (hb.mono (by simp))
  have L1 : w.heap.size < w1.heap.size := by have := hb.size; simp at this; omega
  clear hb CA BA
  go_wp2_with fail
  have R2 : (w1.alloc (.cells #[.int .i64 o, .int .i64 d, .int .i64 a, .int .i64 b, .int .i64 n] 71)).heap[w.heap.size]? = some (.cells #[.int .i64 0, .int .i64 0, .int .i64 0, .int .i64 0, .int .i64 0] 71) := by
    rw [Below.heap_alloc _ _ _ L1]; exact R1.out
  have R3 : (w1.alloc (.cells #[.int .i64 o, .int .i64 d, .int .i64 a, .int .i64 b, .int .i64 n] 71)).heap[w1.heap.size]? = some (.cells #[.int .i64 o, .int .i64 d, .int .i64 a, .int .i64 b, .int .i64 n] 71) := heap_alloc_last w1 _
  have B2 : Hid (Below w.heap.size w (w1.alloc (.cells #[.int .i64 o, .int .i64 d, .int .i64 a, .int .i64 b, .int .i64 n] 71))) := B1.out.alloc (by omega) _
  generalize w1.alloc (.cells #[.int .i64 o, .int .i64 d, .int .i64 a, .int .i64 b, .int .i64 n] 71) = W at *
  generalize w1.heap.size = g1 at *
  clear B1 R1
  have y0 : W.cell? ⟨g1, 0, none⟩ = some (.int .i64 o) := by rw [cell_of_row _ _ _ _ _ _ R3]; rfl
  have y1 : W.cell? ⟨g1, 1, none⟩ = some (.int .i64 d) := by rw [cell_of_row _ _ _ _ _ _ R3]; rfl
  have y2 : W.cell? ⟨g1, 2, none⟩ = some (.int .i64 a) := by rw [cell_of_row _ _ _ _ _ _ R3]; rfl
  have y3 : W.cell? ⟨g1, 3, none⟩ = some (.int .i64 b) := by rw [cell_of_row _ _ _ _ _ _ R3]; rfl
  have y4 : W.cell? ⟨g1, 4, none⟩ = some (.int .i64 n) := by rw [cell_of_row _ _ _ _ _ _ R3]; rfl
  have z0 : W.cell? ⟨w.heap.size, 0, none⟩ = some (.int .i64 0) := by rw [cell_of_row _ _ _ _ _ _ R2]; rfl
  have z1 : W.cell? ⟨w.heap.size, 1, none⟩ = some (.int .i64 0) := by rw [cell_of_row _ _ _ _ _ _ R2]; rfl
  have z2 : W.cell? ⟨w.heap.size, 2, none⟩ = some (.int .i64 0) := by rw [cell_of_row _ _ _ _ _ _ R2]; rfl
  have z3 : W.cell? ⟨w.heap.size, 3, none⟩ = some (.int .i64 0) := by rw [cell_of_row _ _ _ _ _ _ R2]; rfl
  have z4 : W.cell? ⟨w.heap.size, 4, none⟩ = some (.int .i64 0) := by rw [cell_of_row _ _ _ _ _ _ R2]; rfl
  have zf : ∀ i, W.frozen? ⟨w.heap.size, i, none⟩ = false := fun i => frozen_row R2 i
  have HR2 : Hid (W.heap[w.heap.size]? = some (.cells #[.int .i64 0, .int .i64 0, .int .i64 0, .int .i64 0, .int .i64 0] 71)) := R2
  clear R2 R3
  generalize hg0 : w.heap.size = g0 at *
  have HG0 : Hid (w.heap.size = g0) := hg0
  clear hg0
  go_region
  go_wp2_with fail
  refine bodyPost_ret (res29 _ _ g0 _ _ _ _ _ rfl ?_) rfl ⟨rfl, ?_⟩
  · exact heap_setCell_same _ g0 4 _ 71 (.int .i64 n) (heap_setCell_same _ g0 3 _ 71 (.int .i64 b) (heap_setCell_same _ g0 2 _ 71 (.int .i64 a) (heap_setCell_same _ g0 1 _ 71 (.int .i64 d) (heap_setCell_same W g0 0 _ 71 (.int .i64 o) HR2.out))))
  · rw [HG0.out]; exact (below5 B2.out _ _ _ _ _).drew


/-- fetch, over a machine's state. -/
theorem fetch_some (w : World) (s mb L : Nat) (m : MS) (gv ov : Value) (i : In) (h : Core w s mb L m gv ov) (ht : Tabs T w) (hf : fetV L m.M m.pc = some i) :
    Calls Tryd.prog 29 #[.pointer (some ⟨s, 0, none⟩)] w fun e w' => e = .returned (.tuple #[i.v, .bool true]) ∧ Below w.heap.size w w' := by
  unfold fetV at hf
  split at hf
  · rename_i ha
    exact fetch_hit w s mb L m gv ov h ha i.o i.d i.a i.b i.n (fun w' hb => decode_of_some _ i w' (ht.below hb) hf)
  · cases hf

theorem fetch_none (w : World) (s mb L : Nat) (m : MS) (gv ov : Value) (h : Core w s mb L m gv ov) (ht : Tabs T w) (hf : fetV L m.M m.pc = none) :
    Calls Tryd.prog 29 #[.pointer (some ⟨s, 0, none⟩)] w fun e w' => e = .returned (.tuple #[instV 0 0 0 0 0, .bool false]) ∧ Below w.heap.size w w' := by
  unfold fetV at hf
  split at hf
  · rename_i ha
    obtain ⟨a0, a1, a2⟩ := has_split ha
    have rg := gth_range m.M m.pc.toNat 4 (fun i hi => h.M0 (m.pc.toNat + i) (by omega))
    exact fetch_miss w s mb L m gv ov h ha 0 0 0 0 0 (fun w' hb => decode_of_none _ w' (ht.below hb) rg.1 (by have := rg.2; simpa using this) hf)
  · rename_i ha
    exact fetch_out w s mb L m gv ov h (by simpa using ha)
end Go.Proofs.YtaodcpdkobhmfaaDoor
