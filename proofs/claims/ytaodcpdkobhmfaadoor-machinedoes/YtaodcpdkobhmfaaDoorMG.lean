/- slices.Clone at []int64, machine's End and Run, walked. Package machine's End, walked. slices.Equal at []int64: two lists that are the same. The law's sameInts and sameEnd: two lists, two ends that are the same. -/
import Derived.Test.YtaodcpdkobhmfaaDoorMF
namespace Go.Proofs.YtaodcpdkobhmfaaDoor
open Go Go.RowKit

theorem eqlNil (a : Option Addr) (n c : Nat) (w : World) : (binOp .eql 23 (.slice a n c) (.slice none 0 0)).run Tryd.prog w = .ok (.bool a.isNone) w := Lib.run_eql_slice_nil w 23 2 a n c 0 0 Tryd.underlying23

/-- A list of numbers in memory. -/
def Src (w : World) (v : Value) (l : List Int) : Prop :=
  (v = .slice none 0 0 ∧ l = []) ∨ ∃ ad c, v = .slice (some ad) l.length c ∧ ∀ j u, (outL l)[j]? = some u → w.cell? (ad.add j) = some u

theorem Src.of_own {w : World} {B : Nat} {v : Value} {l : List Int} (h : w.ownsRow B 2 1 v l.length (outL l)) : Src w v l := by
  rcases h.2 with ⟨h1, h2⟩ | ⟨g, cap, cur, hv, _⟩
  · exact .inl ⟨h1, List.length_eq_zero_iff.1 h2⟩
  · subst hv
    exact .inr ⟨_, _, rfl, h.cells (g := g) rfl⟩

theorem outL_one (l : List Int) : ∀ u ∈ outL l, u.oneCell' = true := by
  intro u hu
  simp [outL] at hu
  obtain ⟨a, _, rfl⟩ := hu
  rfl

set_option maxRecDepth 100000 in
set_option maxHeartbeats 1000000 in
theorem clone_any (w : World) (v : Value) (l : List Int) (h : Src w v l) (hl : l.length ≤ 1000) :
    Calls Tryd.prog 25 #[v] w fun e w' => ∃ v', e = .returned v' ∧ w'.ownsRow w.heap.size 2 1 v' l.length (outL l) ∧ Below w.heap.size w w' := by
  have hen := eqlNil
  rcases h with ⟨rfl, rfl⟩ | ⟨ad, c, rfl, hc⟩
  · go_enter Tryd.func25, Tryd.ntmps25
    go_wp2
    go_ret
    exact ⟨_, rfl, World.ownsRow_nil _ _ _ _, Below.refl _ _⟩
  · obtain ⟨i0, hi0, hz0, hz1, hz2⟩ := info_parts info2
    have HC : Hid (∀ j u, (outL l)[j]? = some u → w.cell? (ad.add j) = some u) := hc
    have HOW : Hid ((w.alloc (.cells #[] 2)).ownsRow w.heap.size 2 1 (.slice (some ⟨w.heap.size, 0, none⟩) 0 0) 0 []) := World.ownsRow_made (base := w.heap.size) (e := 2) (size := 1) w #[] 0 (Nat.le_refl _) (by unfold maxLen; omega) rfl
    clear hc
    have HN : Hid (∀ j u, (outL l)[j]? = some u → (w.alloc (.cells #[] 2)).cell? (ad.add j) = some u) := fun j u hu => by
      have h0 := HC.out j u hu
      rw [World.cell?_alloc_lt _ _ _ (block_lt_of_cell h0)]; exact h0
    go_enter Tryd.func25, Tryd.ntmps25
    go_wp2_with (at_builtin; refine wpList_append_own _ rfl _ _ 23 rfl w.heap.size 2 i0 (.int .i64 0) 1 8 Tryd.underlying23 hi0 hz0 hz1 hz2 rfl (by decide) (.slice (some ⟨w.heap.size, 0, none⟩) 0 0) 0 [] rfl HOW.out ad l.length c (outL l) rfl (by simp [outL]) HN.out (outL_one l) (by unfold maxLen; omega) (by omega) (by simp) ?_; intro v' w3 hown hgrow _)
    go_ret
    refine ⟨_, rfl, by simpa using hown, ?_⟩
    exact ((Below.refl w.heap.size w).alloc (Nat.le_refl _) _).grown hgrow (by simp) (fun k e => by simp [Value.ownBlock] at e; omega)
end Go.Proofs.YtaodcpdkobhmfaaDoor

namespace Go.Proofs.YtaodcpdkobhmfaaDoor
open Go Go.RowKit

theorem own_form {w : World} {B n : Nat} {v : Value} {xs : List Value} (h : w.ownsRow B 2 1 v n xs) : ∃ q c, v = .slice q n c := by
  rcases h.2 with ⟨h1, h2⟩ | ⟨g, cap, cur, hv, _⟩
  · exact ⟨none, 0, by rw [h1, h2]⟩
  · exact ⟨_, _, hv⟩

/-- What it owns from B on it owns from a smaller number on. -/
theorem own_mono {w : World} {B B' n : Nat} {v : Value} {xs : List Value} (h : w.ownsRow B 2 1 v n xs) (hB : B' ≤ B) : w.ownsRow B' 2 1 v n xs := by
  refine ⟨h.1, ?_⟩
  rcases h.2 with h2 | ⟨g, cap, cur, hv, hg, r⟩
  · exact .inl h2
  · exact .inr ⟨g, cap, cur, hv, Nat.le_trans hB hg, r⟩

theorem res24 (tmps : Array Value) (w : World) (g : Nat) (a b c : Value) (hp : tmps.getD 2 undef = .pointer (some ⟨g, 0, none⟩)) (hg : w.heap[g]? = some (.cells #[a, b, c] 44)) :
    (results Tryd.f24 tmps).run Tryd.prog w = .ok (.agg #[a, b, c]) w :=
  results_cell_row (p := 2) (ty := 44) Tryd.results24 _ _ g 44 _ (0, 0) _ hp hg Tryd.underlying44 rfl (by kernel_rfl)

abbrev endW (w : World) (way code : Int) (ov : Value) : World := (w.alloc (.cells #[.int .i64 0, .int .i64 0, .slice none 0 0] 44)).alloc (.cells #[.int .i64 way, .int .i64 code, ov] 44)

set_option maxRecDepth 100000 in
set_option maxHeartbeats 1000000 in
theorem end_any (w : World) (B s mb L : Nat) (m : MS) (gv ov : Value) (h : Mac w B s mb L m gv ov) :
    Calls Tryd.prog 24 #[.pointer (some ⟨s, 0, none⟩)] w fun e w' => ∃ v', e = .returned (.agg #[.int .i64 m.way, .int .i64 m.code, v']) ∧ w'.ownsRow w.heap.size 2 1 v' m.out.length (outL m.out) ∧ Below w.heap.size w w' := by
  obtain ⟨q, c, hov⟩ := h.ovform
  have c35 := h.core.way
  have hs := h.core.s0
  have c36 := h.core.cod
  have c37 := h.core.out
  have HCL : Hid (∀ w', Below w.heap.size w w' → Calls Tryd.prog 25 #[ov] w' fun e w'' => ∃ v', e = .returned v' ∧ w''.ownsRow w'.heap.size 2 1 v' m.out.length (outL m.out) ∧ Below w'.heap.size w' w'') := fun w' hb => clone_any w' ov m.out (Src.of_own (h.grown hb).own) (by have := h.o2; omega)
  have HBE : Hid (Below w.heap.size w (endW w m.way m.code ov)) := ((Below.refl _ _).alloc (Nat.le_refl _) _).alloc (by simp) _
  rw [hov] at c37
  rw [hov] at HCL HBE
  generalize m.way = x at *
  generalize m.code = y at *
  generalize m.out.length = n at *
  clear h hov
  go_enter Tryd.func24, Tryd.ntmps24
  go_wp2_with (go_at_call 25; fail)
  refine (HCL.out _ HBE.out).mono ?_
  rintro e w3 ⟨v', rfl, hown, hb⟩
  obtain ⟨q', c', hv'⟩ := own_form hown
  have hsz := hb.size
  simp at hsz
  have R0 : w3.heap[w.heap.size]? = some (.cells #[.int .i64 0, .int .i64 0, .slice none 0 0] 44) := by
    rw [hb.block _ (by simp; omega)]; exact heap_alloc2_old _ _ _
  have R1 : w3.heap[w.heap.size + 1]? = some (.cells #[.int .i64 x, .int .i64 y, .slice q n c] 44) := by
    rw [hb.block _ (by simp)]; exact heap_alloc2_new _ _ _
  have HOW : Hid (w3.ownsRow (w.heap.size + 2) 2 1 v' n (outL m.out)) := own_mono hown (by simp)
  have HB3 : Hid (Below w.heap.size w w3) := HBE.out.trans (hb.mono (by simp; omega))
  have y0 : w3.cell? ⟨w.heap.size + 1, 0, none⟩ = some (.int .i64 x) := by rw [cell_of_row _ _ _ _ _ _ R1]; rfl
  have y1 : w3.cell? ⟨w.heap.size + 1, 1, none⟩ = some (.int .i64 y) := by rw [cell_of_row _ _ _ _ _ _ R1]; rfl
  have y2 : w3.cell? ⟨w.heap.size + 1, 2, none⟩ = some (.slice q n c) := by rw [cell_of_row _ _ _ _ _ _ R1]; rfl
  have z0 : w3.cell? ⟨w.heap.size, 0, none⟩ = some (.int .i64 0) := by rw [cell_of_row _ _ _ _ _ _ R0]; rfl
  have z1 : w3.cell? ⟨w.heap.size, 1, none⟩ = some (.int .i64 0) := by rw [cell_of_row _ _ _ _ _ _ R0]; rfl
  have z2 : w3.cell? ⟨w.heap.size, 2, none⟩ = some (.slice none 0 0) := by rw [cell_of_row _ _ _ _ _ _ R0]; rfl
  have zf : ∀ i, w3.frozen? ⟨w.heap.size, i, none⟩ = false := fun i => frozen_row R0 i
  have yf : ∀ i, w3.frozen? ⟨w.heap.size + 1, i, none⟩ = false := fun i => frozen_row R1 i
  have HR0 : Hid (w3.heap[w.heap.size]? = some (.cells #[.int .i64 0, .int .i64 0, .slice none 0 0] 44)) := R0
  subst hv'
  clear hb hown R0 R1 hsz
  go_wp2_with fail
  generalize hg0 : w.heap.size = g0 at *
  have HG0 : Hid (w.heap.size = g0) := hg0
  clear hg0
  have e0 : (w3.setCell ⟨g0 + 1, 2, none⟩ (.slice q' n c')).heap[g0]? = some (.cells #[.int .i64 0, .int .i64 0, .slice none 0 0] 44) := by
    rw [Below.heap_setCell _ _ _ _ (by simp)]; exact HR0.out
  refine bodyPost_ret (res24 _ _ g0 (.int .i64 x) (.int .i64 y) (.slice q' n c') rfl ?_) rfl ⟨.slice q' n c', rfl, ?_, ?_⟩
  · exact heap_setCell_same _ g0 2 _ 44 (.slice q' n c') (heap_setCell_same _ g0 1 _ 44 (.int .i64 y) (heap_setCell_same _ g0 0 _ 44 (.int .i64 x) e0))
  · exact own_mono (ownsRow_setCell_below (ownsRow_setCell_below (ownsRow_setCell_below (ownsRow_setCell_below HOW.out (a := ⟨g0 + 1, 2, none⟩) (by simp) _) (a := ⟨g0, 0, none⟩) (by simp) _) (a := ⟨g0, 1, none⟩) (by simp) _) (a := ⟨g0, 2, none⟩) (by simp) _) (by omega)
  · exact (((HB3.out.setCell (p := ⟨g0 + 1, 2, none⟩) (by simp) _).setCell (p := ⟨g0, 0, none⟩) (Nat.le_refl _) _).setCell (p := ⟨g0, 1, none⟩) (Nat.le_refl _) _).setCell (p := ⟨g0, 2, none⟩) (Nat.le_refl _) _
end Go.Proofs.YtaodcpdkobhmfaaDoor

namespace Go.Proofs.YtaodcpdkobhmfaaDoor
open Go Go.RowKit

/-- A list of numbers that is read. -/
def Rd (w : World) (v : Value) (l : List Int) : Prop := ∃ p c, v = .slice p l.length c ∧ (l ≠ [] → ∃ g o, p = some ⟨g, o, none⟩ ∧ ∀ j, j < l.length → w.cell? ⟨g, o + j, none⟩ = some (.int .i64 (l.getD j 0)))

theorem Rd.of_own {w : World} {B : Nat} {v : Value} {l : List Int} (h : w.ownsRow B 2 1 v l.length (outL l)) : Rd w v l := by
  rcases h.2 with ⟨h1, h2⟩ | ⟨g, cap, cur, hv, _⟩
  · refine ⟨none, 0, by rw [h1, h2], fun hl => absurd (List.length_eq_zero_iff.1 h2) hl⟩
  · subst hv
    refine ⟨_, _, rfl, fun _ => ⟨g, 0, rfl, fun j hj => ?_⟩⟩
    have := h.cells (g := g) rfl j (.int .i64 l[j]) (by simp [outL, hj])
    rw [Nat.zero_add]
    have e : (⟨g, 0, none⟩ : Addr).add j = ⟨g, j, none⟩ := by unfold Addr.add; split <;> simp_all
    rw [e] at this
    rw [List.getD_eq_getElem?_getD, List.getElem?_eq_getElem hj]
    exact this

theorem Rd.below {w w' : World} {v : Value} {l : List Int} (h : Rd w v l) (hb : Below w.heap.size w w') : Rd w' v l := by
  obtain ⟨p, c, h1, h2⟩ := h
  refine ⟨p, c, h1, fun hl => ?_⟩
  obtain ⟨g, o, h3, h4⟩ := h2 hl
  refine ⟨g, o, h3, fun j hj => ?_⟩
  rw [hb.cell (block_lt_of_cell (h4 j hj))]; exact h4 j hj

set_option maxRecDepth 100000 in
set_option maxHeartbeats 1000000 in
theorem equal_nil (w : World) (p q : Option Addr) (c d : Nat) :
    Calls Tryd.prog 21 #[.slice p 0 c, .slice q 0 d] w fun e w' => e = .returned (.bool true) ∧ Below w.heap.size w w' := by
  go_enter Tryd.func21, Tryd.ntmps21
  go_wp2
  go_loop [13] (fun i => i = .int .i64 0) (fun _ => 0)
  case atStart => exact rfl
  case round =>
    subst hrel
    go_wp2
    go_ret
    exact ⟨rfl, Below.refl _ _⟩

set_option maxRecDepth 100000 in
set_option maxHeartbeats 1000000 in
theorem equal_some (w : World) (g o c g' o' d n : Nat) (f : Nat → Int) (h1 : ∀ j, j < n → w.cell? ⟨g, o + j, none⟩ = some (.int .i64 (f j))) (h2 : ∀ j, j < n → w.cell? ⟨g', o' + j, none⟩ = some (.int .i64 (f j))) (hn : n ≤ 100000) :
    Calls Tryd.prog 21 #[.slice (some ⟨g, o, none⟩) n c, .slice (some ⟨g', o', none⟩) n d] w fun e w' => e = .returned (.bool true) ∧ Below w.heap.size w w' := by
  have H1 : Hid (∀ j, j < n → w.cell? ⟨g, o + j, none⟩ = some (.int .i64 (f j))) := h1
  have H2 : Hid (∀ j, j < n → w.cell? ⟨g', o' + j, none⟩ = some (.int .i64 (f j))) := h2
  clear h1 h2
  go_enter Tryd.func21, Tryd.ntmps21
  go_wp2
  go_loopw [13] (fun i wr => ∃ j : Nat, j ≤ n ∧ i = .int .i64 j ∧ Hid (Below w.heap.size w wr)) (fun i _ => n - (intOf i).toNat)
  case atStart => exact ⟨0, Nat.zero_le _, rfl, Below.refl _ _⟩
  case round =>
    obtain ⟨j, hj, rfl, hb⟩ := hrel
    by_cases hlt : j < n
    · have k1 : wr.cell? ⟨g, o + j, none⟩ = some (.int .i64 (f j)) := by rw [hb.out.cell (block_lt_of_cell (H1.out j hlt))]; exact H1.out j hlt
      have k2 : wr.cell? ⟨g', o' + j, none⟩ = some (.int .i64 (f j)) := by rw [hb.out.cell (block_lt_of_cell (H2.out j hlt))]; exact H2.out j hlt
      generalize f j = x at *
      go_wp2
      go_region
      go_wp2
      exact ⟨⟨j + 1, by omega, by go_num, hb.out.drew⟩, by simp [intOf]; omega⟩
    · have e : j = n := by omega
      subst e
      go_wp2
      go_ret
      exact ⟨rfl, hb.out⟩

theorem equal_same (w : World) (v1 v2 : Value) (l : List Int) (h1 : Rd w v1 l) (h2 : Rd w v2 l) (hl : l.length ≤ 100000) :
    Calls Tryd.prog 21 #[v1, v2] w fun e w' => e = .returned (.bool true) ∧ Below w.heap.size w w' := by
  obtain ⟨p, c, rfl, k1⟩ := h1
  obtain ⟨q, d, rfl, k2⟩ := h2
  by_cases e : l = []
  · subst e; exact equal_nil w p q c d
  · obtain ⟨g, o, rfl, m1⟩ := k1 e
    obtain ⟨g', o', rfl, m2⟩ := k2 e
    exact equal_some w g o c g' o' d l.length (fun j => l.getD j 0) m1 m2 hl
end Go.Proofs.YtaodcpdkobhmfaaDoor

namespace Go.Proofs.YtaodcpdkobhmfaaDoor
open Go Go.RowKit

set_option maxRecDepth 100000 in
set_option maxHeartbeats 1000000 in
theorem ints_nil (w : World) (p q : Option Addr) (c d : Nat) :
    Calls Tryd.prog 39 #[.slice p 0 c, .slice q 0 d] w fun e w' => e = .returned (.bool true) ∧ Below w.heap.size w w' := by
  go_enter Tryd.func39, Tryd.ntmps39
  go_wp2
  go_loop [5] (fun i => i = .int .i64 0) (fun _ => 0)
  case atStart => exact rfl
  case round =>
    subst hrel
    go_wp2
    go_ret
    exact ⟨rfl, Below.refl _ _⟩

set_option maxRecDepth 100000 in
set_option maxHeartbeats 1000000 in
theorem ints_some (w : World) (g o c g' o' d n : Nat) (f : Nat → Int) (h1 : ∀ j, j < n → w.cell? ⟨g, o + j, none⟩ = some (.int .i64 (f j))) (h2 : ∀ j, j < n → w.cell? ⟨g', o' + j, none⟩ = some (.int .i64 (f j))) (hn : n ≤ 100000) :
    Calls Tryd.prog 39 #[.slice (some ⟨g, o, none⟩) n c, .slice (some ⟨g', o', none⟩) n d] w fun e w' => e = .returned (.bool true) ∧ Below w.heap.size w w' := by
  have H1 : Hid (∀ j, j < n → w.cell? ⟨g, o + j, none⟩ = some (.int .i64 (f j))) := h1
  have H2 : Hid (∀ j, j < n → w.cell? ⟨g', o' + j, none⟩ = some (.int .i64 (f j))) := h2
  clear h1 h2
  go_enter Tryd.func39, Tryd.ntmps39
  go_wp2
  go_loopw [5] (fun i wr => ∃ j : Nat, j ≤ n ∧ i = .int .i64 j ∧ Hid (Below w.heap.size w wr)) (fun i _ => n - (intOf i).toNat)
  case atStart => exact ⟨0, Nat.zero_le _, rfl, Below.refl _ _⟩
  case round =>
    obtain ⟨j, hj, rfl, hb⟩ := hrel
    by_cases hlt : j < n
    · have k1 : wr.cell? ⟨g, o + j, none⟩ = some (.int .i64 (f j)) := by rw [hb.out.cell (block_lt_of_cell (H1.out j hlt))]; exact H1.out j hlt
      have k2 : wr.cell? ⟨g', o' + j, none⟩ = some (.int .i64 (f j)) := by rw [hb.out.cell (block_lt_of_cell (H2.out j hlt))]; exact H2.out j hlt
      generalize f j = x at *
      go_wp2
      go_region
      all_goals
        go_wp2
        exact ⟨⟨j + 1, by omega, by go_num, hb.out.drew⟩, by simp [intOf]; omega⟩
    · have e : j = n := by omega
      subst e
      go_wp2
      go_ret
      exact ⟨rfl, hb.out⟩

theorem ints_same (w : World) (v1 v2 : Value) (l : List Int) (h1 : Rd w v1 l) (h2 : Rd w v2 l) (hl : l.length ≤ 100000) :
    Calls Tryd.prog 39 #[v1, v2] w fun e w' => e = .returned (.bool true) ∧ Below w.heap.size w w' := by
  obtain ⟨p, c, rfl, k1⟩ := h1
  obtain ⟨q, d, rfl, k2⟩ := h2
  by_cases e : l = []
  · subst e; exact ints_nil w p q c d
  · obtain ⟨g, o, rfl, m1⟩ := k1 e
    obtain ⟨g', o', rfl, m2⟩ := k2 e
    exact ints_some w g o c g' o' d l.length (fun j => l.getD j 0) m1 m2 hl

abbrev endsW (w : World) (x y : Int) (v1 v2 : Value) : World := (w.alloc (.cells #[.int .i64 x, .int .i64 y, v1] 44)).alloc (.cells #[.int .i64 x, .int .i64 y, v2] 44)

set_option maxRecDepth 100000 in
set_option maxHeartbeats 1000000 in
theorem ends_same (w : World) (x y : Int) (v1 v2 : Value) (l : List Int) (h1 : Rd w v1 l) (h2 : Rd w v2 l) (hl : l.length ≤ 100000) :
    Calls Tryd.prog 16 #[.agg #[.int .i64 x, .int .i64 y, v1], .agg #[.int .i64 x, .int .i64 y, v2]] w fun e w' => e = .returned (.bool true) ∧ Below w.heap.size w w' := by
  obtain ⟨p, c, e1, _⟩ := id h1
  obtain ⟨q, d, e2, _⟩ := id h2
  have hb : Below w.heap.size w (endsW w x y v1 v2) := ((Below.refl _ _).alloc (Nat.le_refl _) _).alloc (by simp) _
  have HI : Hid (Calls Tryd.prog 39 #[v1, v2] (endsW w x y v1 v2) fun e w' => e = .returned (.bool true) ∧ Below (endsW w x y v1 v2).heap.size (endsW w x y v1 v2) w') := ints_same _ v1 v2 l (h1.below hb) (h2.below hb) hl
  have HB : Hid (Below w.heap.size w (endsW w x y v1 v2)) := hb
  clear h1 h2 hb
  rw [e1, e2] at HI HB
  rw [e1, e2]
  clear e1 e2
  generalize l.length = n at *
  go_enter Tryd.func16, Tryd.ntmps16
  go_wp2_with (go_at_call 39; fail)
  refine HI.out.mono ?_
  rintro e w1 ⟨rfl, hb⟩
  have HB1 : Hid (Below w.heap.size w w1) := HB.out.trans (hb.mono HB.out.size)
  clear hb
  go_wp2
  go_ret
  exact ⟨rfl, HB1.out⟩
end Go.Proofs.YtaodcpdkobhmfaaDoor
