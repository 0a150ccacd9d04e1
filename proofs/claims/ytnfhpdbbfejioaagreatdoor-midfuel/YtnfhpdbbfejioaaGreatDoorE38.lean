/- PD PM PE PF -/
import Derived.Test.YtnfhpdbbfejioaaGreatDoorE37
namespace Go.Proofs.YtnfhpdbbfejioaaGreatDoor.Mid
set_option linter.unusedVariables false
set_option linter.unusedSimpArgs false
set_option maxRecDepth 100000
set_option maxHeartbeats 16000000
open Go Go.RowKit
theorem li_of2 {w : World} {v : Value} {L : List Fun} (h : Got w v L) : LiS (Go.Proofs.YtnfhpdbbfejioaaGreatDoor.Lo w.heap.size) w v L := by
  obtain ⟨n, cs, hr, hx⟩ := h
  obtain ⟨L', e1, e2, e3⟩ := fns_open _ cs hx
  have := trs_inj e1
  subst this
  have hn : n = L.length := by have := hr.1; omega
  subst hn
  have : LiS Everywhere w v L := ⟨cs, ⟨hr, fun _ _ => trivial⟩, e3⟩
  exact this.mono (fun b _ hb => hb)
theorem read_rf2 {s : By} (hs : s.length ≤ 1000000) {L : List Fun} (h : qh s = .ok (chain (L.map Fun.tr))) : (∀ F ∈ L, GoodF F ∧ RF F) ∧ L.length ≤ 12 := by
  obtain ⟨l, c, t1, p1⟩ := parse_parts h
  obtain ⟨e1, e2⟩ := tok_ends t1 hs
  obtain ⟨L0, q0, gL, q1⟩ := prog_re _ 0 (tok_tk t1) e1 p1
  have := trs_inj q0
  subst this
  obtain ⟨L1, z1, z2, z3, z4⟩ := parse_good hs h
  have := trs_inj z1
  subst this
  exact ⟨fun F hF => ⟨z2 F hF, gL F hF⟩, z4⟩
theorem check_got2 {s : By} (hs : s.length ≤ 1000000) {L : List Fun} (h : qh s = .ok (chain (L.map Fun.tr))) (w : World) (v : Value) (hg : Got w v L) : Calls Tryz.prog 16 #[v] w (ChP (chk L) w) := check_any w v L (li_of2 hg) (read_rf2 hs h).2 (read_rf2 hs h).1
def psOf2 : Tr → Nm
  | .slice [.agg [.lit (.string nm), .lit (.int _ t)]] [g] => (nm, t) :: psOf2 g
  | _ => []
def funsOf2 : Tr → List Fun
  | .slice [.agg [.lit (.string nm), .lit (.int k a), ps, b]] [g] => ⟨nm, k, a, psOf2 ps, b⟩ :: funsOf2 g
  | _ => []
def treeOf2 : Except (Int × Nat) Tr → Tr
  | .ok t => t
  | _ => .nil
theorem equal_sm (w : World) (v1 v2 : Value) (l : List Int) (h1 : InW w v1 l) (h2 : InW w v2 l) (hl : l.length ≤ 100000) :
    Calls Tryz.prog 13 #[v1, v2] w fun e w' => e = .returned (.bool true) ∧ Below w.heap.size w w' := by
  obtain ⟨p, c, rfl, h1⟩ := h1
  obtain ⟨q, d, rfl, h2⟩ := h2
  obtain ⟨n, hn⟩ : ∃ n, n = l.length := ⟨_, rfl⟩
  have H1 : Hid (∀ j, j < n → ∃ g o, p = some ⟨g, o, none⟩ ∧ g < w.heap.size ∧ ∀ j, j < n → w.cell? ⟨g, o + j, none⟩ = some (.int .i64 (l.getD j 0))) := fun j hj => by
    rcases h1 with rfl | ⟨g, o, e, hg, _, hx⟩
    · simp at hn; omega
    · exact ⟨g, o, e, hg, fun j hj => hx j _ (by rw [List.getElem?_eq_getElem (by omega)]; simp [List.getD_eq_getElem?_getD, List.getElem?_eq_getElem (show j < l.length by omega)])⟩
  have H2 : Hid (∀ j, j < n → ∃ g o, q = some ⟨g, o, none⟩ ∧ g < w.heap.size ∧ ∀ j, j < n → w.cell? ⟨g, o + j, none⟩ = some (.int .i64 (l.getD j 0))) := fun j hj => by
    rcases h2 with rfl | ⟨g, o, e, hg, _, hx⟩
    · simp at hn; omega
    · exact ⟨g, o, e, hg, fun j hj => hx j _ (by rw [List.getElem?_eq_getElem (by omega)]; simp [List.getD_eq_getElem?_getD, List.getElem?_eq_getElem (show j < l.length by omega)])⟩
  have hn6 : n ≤ 100000 := by omega
  rw [← hn]
  clear h1 h2 hn hl
  go_enter Tryz.func13, Tryz.ntmps13
  go_wp2
  go_loopw [13] (fun i wr => ∃ j : Nat, j ≤ n ∧ i = .int .i64 j ∧ Hid (Below w.heap.size w wr)) (fun i _ => n - (intOf i).toNat)
  case atStart => exact ⟨0, Nat.zero_le _, rfl, Below.refl _ _⟩
  case round =>
    obtain ⟨j, hj, rfl, hb⟩ := hrel
    by_cases hlt : j < n
    · obtain ⟨g, o, rfl, hg, hc⟩ := H1.out j hlt
      obtain ⟨g', o', rfl, hg', hc'⟩ := H2.out j hlt
      have k1 : wr.cell? ⟨g, o + j, none⟩ = some (.int .i64 (l.getD j 0)) := by rw [hb.out.cell (p := ⟨g, o + j, none⟩) hg]; exact hc j hlt
      have k2 : wr.cell? ⟨g', o' + j, none⟩ = some (.int .i64 (l.getD j 0)) := by rw [hb.out.cell (p := ⟨g', o' + j, none⟩) hg']; exact hc' j hlt
      generalize l.getD j 0 = x at *
      clear hc hc'
      go_wp2
      go_region
      go_wp2
      exact ⟨⟨j + 1, by omega, by go_num, hb.out.drew⟩, by simp [intOf]; omega⟩
    · have e : j = n := by omega
      subst e
      go_wp2
      go_ret
      exact ⟨rfl, hb.out⟩
def FnO (w : World) (fb : Nat) (tv sv : Value) (m : Mf) : Prop := ∃ R P mb v1 v2 s', Wc R w P mb tv sv v1 v2 s' ∧ fb < P - 1 ∧ m.types = s'.ts ∧ m.steps = s'.ss
theorem FnO.on {w w' : World} {fb : Nat} {tv sv : Value} {m : Mf} (h : FnO w fb tv sv m) (hb : Below w.heap.size w w') : FnO w' fb tv sv m := by
  obtain ⟨R, P, mb, v1, v2, s', h, h1⟩ := h
  exact ⟨R, P, mb, v1, v2, s', h.on (fun b hb' => hb.block b hb') (hb.mono (by have := h.ltP; omega)), h1⟩
theorem FnO.set {w w' : World} {fb : Nat} {tv sv : Value} {m : Mf} {cur : Array Value} (h : FnO w fb tv sv m) (hg : w.heap[fb]? = some (.cells cur 103)) (hk : ∀ b, b ≠ fb → w'.heap[b]? = w.heap[b]?) (hs : w.heap.size ≤ w'.heap.size) : FnO w' fb tv sv m := by
  obtain ⟨R, P, mb, v1, v2, s', h, h1, h2⟩ := h
  have h0 : R fb = 0 := by
    rcases Nat.eq_zero_or_pos (R fb) with e | e
    · exact e
    · have := h.lo fb (by omega)
      omega
  exact ⟨R, P, mb, v1, v2, s', h.other hg (by decide) h0 hk hs, h1, h2⟩
theorem FnO.fnv {w : World} {fb : Nat} {tv sv : Value} {m : Mf} (h : FnO w fb tv sv m) : FnV w tv sv m := by
  obtain ⟨R, P, mb, v1, v2, s', h, h1, h2, h3⟩ := h
  obtain ⟨nm, n, ts, ss⟩ := m
  dsimp only at h2 h3
  subst h2 h3
  exact h.fnv nm n
abbrev setq4 (W : World) (g o : Nat) (a0 a1 a2 a3 : Value) : World := (((W.setCell ⟨g, o, none⟩ a0).setCell ⟨g, o + 1, none⟩ a1).setCell ⟨g, o + 2, none⟩ a2).setCell ⟨g, o + 3, none⟩ a3
theorem setq4_same (W : World) (g o : Nat) (t : TypeId) (cur : Array Value) (a0 a1 a2 a3 : Value) (h : W.heap[g]? = some (.cells cur t)) : (setq4 W g o a0 a1 a2 a3).heap[g]? = some (.cells ((((cur.setIfInBounds o a0).setIfInBounds (o + 1) a1).setIfInBounds (o + 2) a2).setIfInBounds (o + 3) a3) t) := by
  have h0 := heap_setCell_same W g o _ t a0 h
  have h1 := heap_setCell_same _ g (o + 1) _ t a1 h0
  have h2 := heap_setCell_same _ g (o + 2) _ t a2 h1
  exact heap_setCell_same _ g (o + 3) _ t a3 h2
theorem setq4_other (W : World) (g o : Nat) (a0 a1 a2 a3 : Value) (b : Nat) (hb : b ≠ g) : (setq4 W g o a0 a1 a2 a3).heap[b]? = W.heap[b]? := by
  rw [heap_setCell_other _ _ _ _ hb, heap_setCell_other _ _ _ _ hb, heap_setCell_other _ _ _ _ hb, heap_setCell_other _ _ _ _ hb]
theorem setq4_cell (W : World) (g o : Nat) (a0 a1 a2 a3 : Value) (b i : Nat) (hb : ¬ b = g) : (setq4 W g o a0 a1 a2 a3).cell? ⟨b, i, none⟩ = W.cell? ⟨b, i, none⟩ := by
  rw [World.cell?_setCell_far _ _ _ _ (fun e => hb e.symm), World.cell?_setCell_far _ _ _ _ (fun e => hb e.symm), World.cell?_setCell_far _ _ _ _ (fun e => hb e.symm), World.cell?_setCell_far _ _ _ _ (fun e => hb e.symm)]
def LoR (W5 : World) (fb n : Nat) (ms : List Mf) (i : Nat) (wr : World) : Prop :=
  ∃ cur, wr.heap[fb]? = some (.cells cur 103) ∧ cur.size = n * 4 ∧ (∀ (j : Nat) (m : Mf), j < i → ms[j]? = some m → ∃ tv sv, cur[j * 4]? = some (.string ⟨m.name.toArray⟩) ∧ cur[j * 4 + 1]? = some (.int .i64 m.params) ∧ cur[j * 4 + 2]? = some tv ∧ cur[j * 4 + 3]? = some sv ∧ FnO wr fb tv sv m) ∧ Below fb W5 wr ∧ wr.heap[fb + 1]? = some (.cells #[.slice (some ⟨fb, 0, none⟩) n n] 53)
theorem LoR.on {W5 : World} {fb n : Nat} {ms : List Mf} {i : Nat} {wr w' : World} (h : LoR W5 fb n ms i wr) (hb : Below wr.heap.size wr w') : LoR W5 fb n ms i w' := by
  obtain ⟨cur, h1, h2, h3, h4, h5⟩ := h
  refine ⟨cur, (hb.block fb (Array.getElem?_eq_some_iff.1 h1).1).trans h1, h2, fun j m hj hm => ?_, h4.trans (hb.mono (Nat.le_of_lt (Array.getElem?_eq_some_iff.1 h1).1)), (hb.block _ (Array.getElem?_eq_some_iff.1 h5).1).trans h5⟩
  obtain ⟨tv, sv, a0, a1, a2, a3, a4⟩ := h3 j m hj hm
  exact ⟨tv, sv, a0, a1, a2, a3, a4.on hb⟩
theorem lo_next {W5 : World} {fb n : Nat} {ms : List Mf} {i : Nat} {wr : World} (h : LoR W5 fb n ms i wr) (hi : i < n) {m : Mf} (hm : ms[i]? = some m) {tv sv : Value} (ho : FnO wr fb tv sv m) :
    ((∃ x0 x1 x2 x3, wr.cell? ⟨fb, i * 4, none⟩ = some x0 ∧ wr.cell? ⟨fb, i * 4 + 1, none⟩ = some x1 ∧ wr.cell? ⟨fb, i * 4 + 2, none⟩ = some x2 ∧ wr.cell? ⟨fb, i * 4 + 3, none⟩ = some x3) ∧ ∀ k, wr.frozen? ⟨fb, k, none⟩ = false) ∧
    LoR W5 fb n ms (i + 1) (setq4 wr fb (i * 4) (.string ⟨m.name.toArray⟩) (.int .i64 m.params) tv sv) := by
  obtain ⟨cur, h1, h2, h3, h4, h5⟩ := h
  have hk := setq4_other wr fb (i * 4) (.string ⟨m.name.toArray⟩) (.int .i64 m.params) tv sv
  have hsz : wr.heap.size ≤ (setq4 wr fb (i * 4) (.string ⟨m.name.toArray⟩) (.int .i64 m.params) tv sv).heap.size := by simp
  refine ⟨⟨⟨_, _, _, _, z_ h1 (Array.getElem?_eq_getElem (by omega)), z_ h1 (Array.getElem?_eq_getElem (by omega)), z_ h1 (Array.getElem?_eq_getElem (by omega)), z_ h1 (Array.getElem?_eq_getElem (by omega))⟩, fun k => zb h1 k⟩, ((((cur.setIfInBounds (i * 4) (.string ⟨m.name.toArray⟩)).setIfInBounds (i * 4 + 1) (.int .i64 m.params)).setIfInBounds (i * 4 + 2) tv).setIfInBounds (i * 4 + 3) sv), setq4_same wr fb (i * 4) 103 cur _ _ _ _ h1, by simp [h2], fun j mj hj hmj => ?_, (((h4.setCell (p := ⟨fb, i * 4, none⟩) (Nat.le_refl _) _).setCell (p := ⟨fb, i * 4 + 1, none⟩) (Nat.le_refl _) _).setCell (p := ⟨fb, i * 4 + 2, none⟩) (Nat.le_refl _) _).setCell (p := ⟨fb, i * 4 + 3, none⟩) (Nat.le_refl _) _, (hk (fb + 1) (by omega)).trans h5⟩
  by_cases hji : j = i
  · subst hji
    rw [hm] at hmj
    injection hmj with e
    subst e
    refine ⟨tv, sv, ?_, ?_, ?_, ?_, ho.set h1 hk hsz⟩
    · rw [Array.getElem?_setIfInBounds_ne (by omega), Array.getElem?_setIfInBounds_ne (by omega), Array.getElem?_setIfInBounds_ne (by omega), Array.getElem?_setIfInBounds_self_of_lt (by omega)]
    · rw [Array.getElem?_setIfInBounds_ne (by omega), Array.getElem?_setIfInBounds_ne (by omega), Array.getElem?_setIfInBounds_self_of_lt (by simp; omega)]
    · rw [Array.getElem?_setIfInBounds_ne (by omega), Array.getElem?_setIfInBounds_self_of_lt (by simp; omega)]
    · rw [Array.getElem?_setIfInBounds_self_of_lt (by simp; omega)]
  · obtain ⟨tv', sv', a0, a1, a2, a3, a4⟩ := h3 j mj (by omega) hmj
    refine ⟨tv', sv', ?_, ?_, ?_, ?_, a4.set h1 hk hsz⟩
    all_goals
      rw [Array.getElem?_setIfInBounds_ne (by omega), Array.getElem?_setIfInBounds_ne (by omega), Array.getElem?_setIfInBounds_ne (by omega), Array.getElem?_setIfInBounds_ne (by omega)]
      assumption
theorem lo_fin {W5 : World} {fb n : Nat} {ms : List Mf} {wr w' : World} (h : LoR W5 fb n ms n wr) (hn : ms.length = n) (h12 : n ≤ 1000000) (hok : ∀ m ∈ ms, I64 m.params ∧ m.name.length ≤ 9223372036854775807) (hk : ∀ b : Nat, w'.heap[b]? = wr.heap[b]?) (hs : wr.heap.size ≤ w'.heap.size) : CodeAt w' (fb + 1) (some ⟨fb, 0, none⟩) n ms := by
  obtain ⟨cur, h1, h2, h3, h4, h5⟩ := h
  refine ⟨z_ (i := 0) ((hk _).trans h5) (by rw [hn]; rfl), ⟨by omega, by omega⟩, .inr ⟨fb, 0, rfl, fun j F hF => ?_⟩⟩
  have hj := (List.getElem?_eq_some_iff.1 hF).1
  obtain ⟨tv, sv, a0, a1, a2, a3, a4⟩ := h3 j F (by omega) hF
  obtain ⟨k1, ⟨q, c, k2, k3, k4⟩, k5⟩ := (a4.set h1 (fun b _ => hk b) hs).fnv
  obtain ⟨o1, o2⟩ := hok F (List.mem_of_getElem? hF)
  rw [Nat.zero_add]
  subst k2
  have h1' := (hk fb).trans h1
  exact ⟨z_ h1' a0, z_ h1' a1, ⟨tv, z_ h1' a2, k1⟩, ⟨q, c, z_ h1' a3, k3, k4⟩, o1, o2, k5⟩
theorem info103 : (Tryz.prog.info? 103).map (fun i => (i.zero, i.size, i.bytes)) = some (some (.agg #[.string ⟨#[]⟩, .int .i64 0, .slice none 0 0, .slice none 0 0]), 4, 72) := by kernel_rfl
theorem mk_fns (n : Nat) (hn : n ≤ 1000) (w : World) : (Instr.makeSlice 50 (.int .i64 (n : Int)) (.int .i64 (n : Int))).run Tryz.prog w = .ok (.slice (some ⟨w.heap.size, 0, none⟩) n n) (w.alloc (.cells (madeCells #[.string ⟨#[]⟩, .int .i64 0, .slice none 0 0, .slice none 0 0] (n * 4)) 103)) := by
  obtain ⟨i, hi, hz0, hz1, hz2⟩ := info_parts info103
  have := run_makeSlice w 50 103 i _ Tryz.underlying50 hi hz0 .i64 .i64 (n : Int) (n : Int) (by omega) (by omega) (by rw [hz1]; simp; omega) (by rw [hz2]; omega) (by omega)
  rw [hz1] at this
  simp only [Int.toNat_natCast] at this
  exact this
theorem lo_start {W5 : World} {fb n : Nat} {ms : List Mf} (h : W5.heap[fb]? = some (.cells (madeCells #[.string ⟨#[]⟩, .int .i64 0, .slice none 0 0, .slice none 0 0] (n * 4)) 103)) (h5 : W5.heap[fb + 1]? = some (.cells #[.slice (some ⟨fb, 0, none⟩) n n] 53)) : LoR W5 fb n ms 0 W5 :=
  ⟨_, h, by simp [madeCells], fun j m hj => by omega, Below.refl _ _, h5⟩
theorem low_idle (b1 b2 : Nat) (w : World) : CallsD Tryz.prog 42 #[ptr b1, ptr b2] .returning w fun e u' w' => e = .returned (.tuple #[]) ∧ u' = .returning ∧ w' = w := by
  have h1 : ∀ w : World, (binOp .neq 20 .nilIface .nilIface).run Tryz.prog w = .ok (.bool false) w := fun w => by kernel_rfl
  refine callsD_of_wpS Tryz.func42 rfl fun c₀ cs hu => ?_
  apply wpS_seq
  apply wpS_region
  simp [wpOpsS, go_sem, recoverD, hu, Tryz.ntmps42, Exit.thenS, h1]
  refine wpS_cond (t := false) (by simp [Act.eval, Array.replicate]) ?_
  simp only [Bool.false_eq_true, if_false]
  refine wpS_of_wp (wp_skip ?_)
  cases c₀
  simp_all [bodyPostS, results, Tryz.results42, Exit.thenS]
theorem res20 (tmps : Array Value) (W : World) (b1 b2 : Nat) (x y : Value) (hp1 : tmps[2]?.getD undef = .pointer (some ⟨b1, 0, none⟩)) (hp2 : tmps[3]?.getD undef = .pointer (some ⟨b2, 0, none⟩)) (h1 : W.cell? ⟨b1, 0, none⟩ = some x) (h2 : W.cell? ⟨b2, 0, none⟩ = some y) :
    (results Tryz.f20 tmps).run Tryz.prog W = .ok (.tuple #[x, y]) W := by
  simp [results, Tryz.results20, go_sem, hp1, hp2, h1, h2]
theorem set_heap (w : World) (b : Nat) (v : Value) (t : TypeId) (h : w.heap[b]? = some (.cells #[v] t)) (k : Nat) : (w.setCell ⟨b, 0, none⟩ v).heap[k]? = w.heap[k]? := by
  by_cases e : k = b
  · subst e
    rw [heap_setCell_same _ _ _ _ _ _ h, h]
    rfl
  · exact heap_setCell_other _ _ _ _ e
def LwF (F : Fun) (m : Mf) : Prop := ∃ u s', fnK F.ps F.body = some (u, s') ∧ m = ⟨F.nm, F.ps.length, s'.ts, s'.ss⟩
theorem lower_any (hF : FnC) (w : World) (v : Value) (l : List Fun) (hl : LiS (Lo w.heap.size) w v l) (hck : ∀ W, Below w.heap.size w W → Calls Tryz.prog 16 #[v] W (ChP (.ok true) W)) (ms : List Mf) (hlen : ms.length = l.length) (hms : ∀ (i : Nat) (F : Fun) (m : Mf), l[i]? = some F → ms[i]? = some m → LwF F m) (h12 : l.length ≤ 12) (hok : ∀ m ∈ ms, I64 m.params ∧ m.name.length ≤ 9223372036854775807) (hnm : ∀ F ∈ l, F.nm.length ≤ 1000000) : Calls Tryz.prog 20 #[v] w fun e w' => ∃ cb q c, e = .returned (.tuple #[ptr cb, .nilIface]) ∧ CodeAt w' cb q c ms ∧ Below w.heap.size w w' := by
  have hmf : ∀ (fn : Fn) (first cap : Array Value) (w : World), (Instr.makeFunc fn first cap).run Tryz.prog w = .ok (.func fn first cap) w := fun _ _ _ _ => rfl
  obtain ⟨cs0, hr0, ho0⟩ := hl.row
  obtain ⟨q, c, rfl⟩ := zd hr0.1
  obtain ⟨n, hn⟩ : ∃ n, n = l.length := ⟨_, rfl⟩
  rw [← hn] at hck ⊢
  obtain ⟨W0, hW0⟩ : ∃ W0, W0 = (w.alloc (.cells #[.pointer none] 43)).alloc (.cells #[.nilIface] 34) := ⟨_, rfl⟩
  have hz0 : W0.heap.size = w.heap.size + 2 := by rw [hW0]; simp
  have hb0 : Below w.heap.size w W0 := by rw [hW0]; exact ((zt w _).trans ((zt _ _).mono (by simp)))
  have hi0 : W0.heap[w.heap.size]? = some (.cells #[.pointer none] 43) := by
    rw [hW0, zc (by simp)]
    exact heap_alloc_last _ _
  have hi1 : W0.heap[w.heap.size + 1]? = some (.cells #[.nilIface] 34) := by
    rw [hW0]
    have := heap_alloc_last (w.alloc (.cells #[.pointer none] 43)) (.cells #[.nilIface] 34)
    simpa using this
  have HCk : Hid (Calls Tryz.prog 16 #[.slice q n c] W0 (ChP (.ok true) W0)) := hck W0 hb0
  have HN : Hid (n = l.length) := hn
  have HI0 : Hid (W0.heap[w.heap.size]? = some (.cells #[.pointer none] 43) ∧ W0.heap[w.heap.size + 1]? = some (.cells #[.nilIface] 34)) := ⟨hi0, hi1⟩
  have HZ0 : Hid (W0.heap.size = w.heap.size + 2 ∧ Below w.heap.size w W0) := ⟨hz0, hb0⟩
  have HLi : Hid (LiS (Lo w.heap.size) w (.slice q n c) l) := by rw [hn]; exact hl
  have HMs : Hid (∀ (i : Nat) (F : Fun) (m : Mf), l[i]? = some F → ms[i]? = some m → LwF F m) := hms
  have HNm : Hid (∀ F ∈ l, F.nm.length ≤ 1000000) := hnm
  have HOk : Hid (∀ m ∈ ms, I64 m.params ∧ m.name.length ≤ 9223372036854775807) := hok
  have HLn : Hid (ms.length = n) := by rw [hn]; exact hlen
  have hn12 : n ≤ 12 := by omega
  obtain ⟨G, hG⟩ : ∃ G : Ending → World → Prop, G = fun e w' => ∃ cb q c, e = .returned (.tuple #[ptr cb, .nilIface]) ∧ CodeAt w' cb q c ms ∧ Below w.heap.size w w' := ⟨_, rfl⟩
  have HG : Hid (G = fun e w' => ∃ cb q c, e = .returned (.tuple #[ptr cb, .nilIface]) ∧ CodeAt w' cb q c ms ∧ Below w.heap.size w w') := hG
  rw [← hG]
  have hmk := mk_fns n (by omega)
  clear hck hr0 ho0 hl hn hz0 hb0 hi0 hi1 hms hnm hlen h12 hG
  go_enter_defers Tryz.func20, Tryz.ntmps20
  go_wp2_with (go_at_call 16; fail)
  rw [← hW0]
  clear hW0
  refine HCk.out.mono ?_
  rintro e w1 ⟨⟨-, rfl⟩ | ⟨hx, -⟩ | ⟨k, a, b, hx, -⟩, hb1⟩
  rotate_left
  · cases hx
  · cases hx
  have HB1 : Hid (Below W0.heap.size W0 w1) := hb1
  obtain ⟨Wa, hWa⟩ : ∃ Wa, Wa = (w1.alloc (.cells (madeCells #[.string ⟨#[]⟩, .int .i64 0, .slice none 0 0, .slice none 0 0] (n * 4)) 103)).alloc (.cells #[.slice (some ⟨w1.heap.size, 0, none⟩) n n] 53) := ⟨_, rfl⟩
  have hza : Wa.heap.size = w1.heap.size + 2 := by rw [hWa]; simp
  have hba : Below w1.heap.size w1 Wa := by rw [hWa]; exact ((zt w1 _).trans ((zt _ _).mono (by simp)))
  have hja : Wa.heap[w1.heap.size]? = some (.cells (madeCells #[.string ⟨#[]⟩, .int .i64 0, .slice none 0 0, .slice none 0 0] (n * 4)) 103) := by
    rw [hWa, zc (by simp)]
    exact heap_alloc_last _ _
  have hjb : Wa.heap[w1.heap.size + 1]? = some (.cells #[.slice (some ⟨w1.heap.size, 0, none⟩) n n] 53) := by
    rw [hWa]
    have := heap_alloc_last (w1.alloc (.cells (madeCells #[.string ⟨#[]⟩, .int .i64 0, .slice none 0 0, .slice none 0 0] (n * 4)) 103)) (.cells #[.slice (some ⟨w1.heap.size, 0, none⟩) n n] 53)
    simpa using this
  have hw1 : w.heap.size + 2 ≤ w1.heap.size := by have := HZ0.out.1; have := hb1.size; omega
  have hr0 : Wa.heap[w.heap.size]? = some (.cells #[.pointer none] 43) := by
    have := HZ0.out.1
    exact ((hba.block _ (by omega)).trans (hb1.block _ (by omega))).trans HI0.out.1
  have hr1 : Wa.heap[w.heap.size + 1]? = some (.cells #[.nilIface] 34) := by
    have := HZ0.out.1
    exact ((hba.block _ (by omega)).trans (hb1.block _ (by omega))).trans HI0.out.2
  have d0 := z_ (i := 0) hr0 rfl
  have f0 := zb hr0 0
  obtain ⟨W5, hW5⟩ : ∃ W5, W5 = Wa.setCell ⟨w.heap.size, 0, none⟩ (ptr (w1.heap.size + 1)) := ⟨_, rfl⟩
  obtain ⟨fb, hfb⟩ : ∃ fb, fb = w1.heap.size := ⟨_, rfl⟩
  have hk5 : ∀ b, b ≠ w.heap.size → W5.heap[b]? = Wa.heap[b]? := fun b hb => by rw [hW5]; exact heap_setCell_other _ _ _ _ hb
  have hz5 : W5.heap.size = fb + 2 := by rw [hW5, hfb]; simp [hza]
  have hc5 : W5.heap[w.heap.size]? = some (.cells #[ptr (fb + 1)] 43) := by rw [hW5, hfb]; exact heap_setCell_same _ _ _ _ _ _ hr0
  have he5 : W5.heap[w.heap.size + 1]? = some (.cells #[.nilIface] 34) := (hk5 _ (by omega)).trans hr1
  have hf5 : W5.heap[fb]? = some (.cells (madeCells #[.string ⟨#[]⟩, .int .i64 0, .slice none 0 0, .slice none 0 0] (n * 4)) 103) := by rw [hfb]; exact (hk5 _ (by omega)).trans hja
  have hd5 : W5.heap[fb + 1]? = some (.cells #[.slice (some ⟨fb, 0, none⟩) n n] 53) := by rw [hfb]; exact (hk5 _ (by omega)).trans hjb
  have hb5 : Below w.heap.size w W5 := by
    have h1 : Below w.heap.size Wa W5 := by rw [hW5]; exact (Below.refl _ _).setCell (p := ⟨w.heap.size, 0, none⟩) (Nat.le_refl _) _
    exact ((HZ0.out.2.trans (hb1.mono (by have := HZ0.out.1; omega))).trans (hba.mono (by omega))).trans h1
  have H5 : Hid ((W5.heap[w.heap.size]? = some (.cells #[ptr (fb + 1)] 43) ∧ W5.heap[w.heap.size + 1]? = some (.cells #[.nilIface] 34) ∧ W5.heap[fb + 1]? = some (.cells #[.slice (some ⟨fb, 0, none⟩) n n] 53)) ∧ W5.heap.size = fb + 2 ∧ w.heap.size + 2 ≤ fb ∧ Below w.heap.size w W5) := ⟨⟨hc5, he5, hd5⟩, hz5, by omega, hb5⟩
  have HS : Hid (LoR W5 fb n ms 0 W5) := lo_start hf5 hd5
  have hWa' := hWa
  rw [hWa] at d0 f0
  have hne : ∀ w : World, (binOp .neq 34 .nilIface .nilIface).run Tryz.prog w = .ok (.bool false) w := fun w => by kernel_rfl
  clear hb1 HCk hza hba hja hjb hw1 hr0 hr1 hk5 hz5 hc5 he5 hf5 hd5 hb5 hWa'
  go_upto_region 7 with fail
  rw [← hWa, ← hW5, ← hfb]
  clear hWa hW5 hfb d0 f0
  go_loopw [20] (fun v wr => ∃ i : Nat, i ≤ n ∧ v = .int .i64 i ∧ Hid (LoR W5 fb n ms i wr)) (fun v _ => n - (intOf v).toNat)
  case atStart => exact ⟨0, Nat.zero_le _, rfl, HS⟩
  case round =>
    obtain ⟨i, hin, rfl, HI⟩ := hrel
    by_cases hlt : i < n
    · obtain ⟨F, hFi⟩ : ∃ F, l[i]? = some F := ⟨l[i]'(by have := HN.out; omega), List.getElem?_eq_getElem (by have := HN.out; omega)⟩
      obtain ⟨m, hmi⟩ : ∃ m, ms[i]? = some m := ⟨ms[i]'(by have := HLn.out; omega), List.getElem?_eq_getElem (by have := HLn.out; omega)⟩
      obtain ⟨u, s', hfk, hme⟩ := HMs.out i F m hFi hmi
      obtain ⟨cur, hc1, -, -, hbw, hc5⟩ := HI.out
      have h5 := H5.out
      have hBw : Below w.heap.size w wr := h5.2.2.2.trans (hbw.mono (by omega))
      have hfbr : fb < wr.heap.size := (Array.getElem?_eq_some_iff.1 hc1).1
      have hLr := HLi.out.kept (zi hBw)
      obtain ⟨cs1, hr1, ho1⟩ := hLr.row
      have hr1' : RowS (Lo w.heap.size) wr 86 4 (.slice q n c) n cs1 := by rw [HN.out] at hr1 ⊢; exact hr1
      obtain ⟨g, cap, e, -, -⟩ := hr1'.1.form (by omega)
      injection e with e1 e2 e3
      subst e1
      clear e2 e3
      obtain ⟨vp, vb, nb, bcs, r1, r2, r3, a0, a1, a2, a3⟩ := ho1 i F hFi
      obtain ⟨y, hy⟩ : ∃ y : ByteArray, y = ⟨F.nm.toArray⟩ := ⟨_, rfl⟩
      have hc : ∀ (j : Nat) (u : Value), cs1[i * 4 + j]? = some u → wr.cell? ⟨g, i * 4 + j, none⟩ = some u := fun j u hu => by
        have := hr1'.1.cells (g := g) rfl (i * 4 + j) u hu
        rw [add_at0] at this
        exact this
      obtain ⟨qp, cp, rfl⟩ := zd r1.1
      obtain ⟨qb, cb, rfl⟩ := zd r2.1
      have q0 : wr.cell? ⟨g, i * 4, none⟩ = some (.string y) := by rw [hy]; exact hc 0 _ a0
      have q1 := hc 1 _ a1
      have q2 := hc 2 _ a2
      have q3 := hc 3 _ a3
      obtain ⟨W7, hW7⟩ : ∃ W7, W7 = wr.alloc (.cells #[.string y, .int .i64 F.at', .slice qp F.ps.length cp, .slice qb nb cb] 86) := ⟨_, rfl⟩
      obtain ⟨b, hb⟩ : ∃ b, b = wr.heap.size := ⟨_, rfl⟩
      have hb7 : Below wr.heap.size wr W7.drew := by rw [hW7]; exact (zt wr _).trans (zl _ _)
      have hz7 : W7.drew.heap.size = b + 1 := by rw [hb]; show W7.heap.size = _; rw [hW7]; simp
      have hk7 : W7.drew.heap[b]? = some (.cells #[.string y, .int .i64 F.at', .slice qp F.ps.length cp, .slice qb nb cb] 86) := by rw [hb, heap_drw, hW7]; exact heap_alloc_last _ _
      have hup : ∀ k, Lo w.heap.size k → k < W7.drew.heap.size → Lo W7.drew.heap.size k := fun k _ hk => hk
      have hkW : Keeps (Lo w.heap.size) wr W7.drew := fun k ds t hk0 _ hk => by rw [hb7.block k (Array.getElem?_eq_some_iff.1 hk).1]; exact hk
      have HCall : Hid (Calls Tryz.prog 43 #[.agg #[.string y, .int .i64 F.at', .slice qp F.ps.length cp, .slice qb nb cb]] W7.drew (FkP F.nm F.ps.length s' W7.drew)) := by
        rw [hy]
        exact hF W7.drew F.nm F.at' _ _ nb F.ps F.body bcs ((r1.kept hkW (by decide)).mono hup) ((r2.kept hkW (by decide)).mono hup) (StAt.mono hup _ _ (StAt.kept hkW _ _ r3)) u s' hfk
      have hrc : W7.drew.heap[w.heap.size]? = some (.cells #[ptr (fb + 1)] 43) := (hb7.block _ (by omega)).trans ((hbw.block _ (by omega)).trans h5.1.1)
      have hrd : W7.drew.heap[fb + 1]? = some (.cells #[.slice (some ⟨fb, 0, none⟩) n n] 53) := (hb7.block _ (Array.getElem?_eq_some_iff.1 hc5).1).trans hc5
      have g0 : W7.drew.cell? ⟨w.heap.size, 0, none⟩ = some (ptr (fb + 1)) := z_ (i := 0) hrc rfl
      have g1 : W7.drew.cell? ⟨fb + 1, 0, none⟩ = some (.slice (some ⟨fb, 0, none⟩) n n) := z_ (i := 0) hrd rfl
      have z0 : W7.drew.cell? ⟨b, 0, none⟩ = some (.string y) := z_ (i := 0) hk7 rfl
      have z1 : W7.drew.cell? ⟨b, 1, none⟩ = some (.int .i64 F.at') := z_ (i := 1) hk7 rfl
      have z2 : W7.drew.cell? ⟨b, 2, none⟩ = some (.slice qp F.ps.length cp) := z_ (i := 2) hk7 rfl
      have z3 : W7.drew.cell? ⟨b, 3, none⟩ = some (.slice qb nb cb) := z_ (i := 3) hk7 rfl
      have hn1 : ¬ w.heap.size = fb := by omega
      have hn2 : ¬ fb + 1 = fb := by omega
      have hn3 : ¬ b = fb := by omega
      have HU : Hid (∀ e w8, FkP F.nm F.ps.length s' W7.drew e w8 → ∃ qt nt ct qv nv cv, e = .returned (.agg #[.string y, .int .i64 (F.ps.length : Int), .slice qt nt ct, .slice qv nv cv]) ∧ (w8.cell? ⟨w.heap.size, 0, none⟩ = some (ptr (fb + 1)) ∧ w8.cell? ⟨fb + 1, 0, none⟩ = some (.slice (some ⟨fb, 0, none⟩) n n) ∧ w8.cell? ⟨b, 0, none⟩ = some (.string y) ∧ w8.cell? ⟨b, 1, none⟩ = some (.int .i64 F.at') ∧ w8.cell? ⟨b, 2, none⟩ = some (.slice qp F.ps.length cp) ∧ w8.cell? ⟨b, 3, none⟩ = some (.slice qb nb cb)) ∧ ((∃ x0 x1 x2 x3, w8.cell? ⟨fb, i * 4, none⟩ = some x0 ∧ w8.cell? ⟨fb, i * 4 + 1, none⟩ = some x1 ∧ w8.cell? ⟨fb, i * 4 + 2, none⟩ = some x2 ∧ w8.cell? ⟨fb, i * 4 + 3, none⟩ = some x3) ∧ ∀ k, w8.frozen? ⟨fb, k, none⟩ = false) ∧ Hid (LoR W5 fb n ms (i + 1) (setq4 w8 fb (i * 4) (.string y) (.int .i64 (F.ps.length : Int)) (.slice qt nt ct) (.slice qv nv cv)))) := fun e w8 hfp => by
        obtain ⟨tv, sv, rfl, ⟨R, P, mb, v1, v2, hw, hPs⟩, hb8⟩ := hfp
        have hL8 := (HI.out.on hb7).on hb8
        have hr8 : w8.heap[b]? = _ := (hb8.block b (by omega)).trans hk7
        have hc8 := (hb8.block _ (Array.getElem?_eq_some_iff.1 hrc).1).trans hrc
        have hd8 := (hb8.block _ (Array.getElem?_eq_some_iff.1 hrd).1).trans hrd
        have hFn : FnO w8 fb tv sv m := ⟨R, P, mb, v1, v2, s', hw, by omega, by rw [hme], by rw [hme]⟩
        obtain ⟨k1, k2⟩ := lo_next hL8 hlt hmi hFn
        obtain ⟨qt, ct, rfl⟩ := zd hw.t
        obtain ⟨avs, x1, x2, x3⟩ := hw.st
        obtain ⟨qv, cv, rfl⟩ := zd x2
        rw [hme] at k2
        refine ⟨qt, _, ct, qv, _, cv, by rw [hy], ⟨z_ (i := 0) hc8 rfl, z_ (i := 0) hd8 rfl, z_ (i := 0) hr8 rfl, z_ (i := 1) hr8 rfl, z_ (i := 2) hr8 rfl, z_ (i := 3) hr8 rfl⟩, k1, ?_⟩
        rw [hy]
        exact k2
      generalize F.at' = aF at *
      generalize F.ps.length = np at *
      clear hFi hmi hfk hme hc1 hbw hc5 h5 hBw hfbr hLr hr1 ho1 hr1' r1 r2 r3 a0 a1 a2 a3 hc hb7 hz7 hk7 hup hkW hrc hrd hy HLi
      go_upto_region 9 with fail
      rw [← hW7, ← hb]
      clear hW7 hb q0 q1 q2 q3
      go_region_held3 (fun w' => w'.cell? ⟨w.heap.size, 0, none⟩ = some (ptr (fb + 1)) ∧ w'.cell? ⟨fb + 1, 0, none⟩ = some (.slice (some ⟨fb, 0, none⟩) n n) ∧ w'.cell? ⟨b, 0, none⟩ = some (.string y) ∧ w'.cell? ⟨b, 1, none⟩ = some (.int .i64 aF) ∧ w'.cell? ⟨b, 2, none⟩ = some (.slice qp np cp) ∧ w'.cell? ⟨b, 3, none⟩ = some (.slice qb nb cb))
        (first | exact ⟨by with_reducible assumption, by with_reducible assumption, by with_reducible assumption, by with_reducible assumption, by with_reducible assumption, by with_reducible assumption⟩ | exact ⟨(setq4_cell _ _ _ _ _ _ _ _ _ hn1).trans k1, (setq4_cell _ _ _ _ _ _ _ _ _ hn2).trans k2, (setq4_cell _ _ _ _ _ _ _ _ _ hn3).trans k3, (setq4_cell _ _ _ _ _ _ _ _ _ hn3).trans k4, (setq4_cell _ _ _ _ _ _ _ _ _ hn3).trans k5, (setq4_cell _ _ _ _ _ _ _ _ _ hn3).trans k6⟩)
        (first
        | (go_at_call 43; refine HCall.out.mono ?_; rintro e w8 hfp; obtain ⟨qt, nt, ct, qv, nv, cv, rfl, ⟨k1, k2, k3, k4, k5, k6⟩, ⟨⟨x0, x1, x2, x3, m0, m1, m2, m3⟩, hfr⟩, HI2⟩ := HU.out e w8 hfp; have n0 := hfr (i * 4); have n1 := hfr (i * 4 + 1); have n2 := hfr (i * 4 + 2); have n3 := hfr (i * 4 + 3); clear hfp hfr))
      all_goals
        go_wp2
        exact ⟨⟨i + 1, by omega, by go_num, HI2⟩, by simp [intOf]; omega⟩
    · obtain rfl : i = n := by omega
      have hL := HI.out
      obtain ⟨cur, -, -, -, hb, -⟩ := hL
      have h5 := H5.out
      have hr0 := (hb.block _ (by omega)).trans h5.1.1
      have hr1 := (hb.block _ (by omega)).trans h5.1.2.1
      have d0 := z_ (i := 0) hr0 rfl
      have d1 := z_ (i := 0) hr1 rfl
      have f0 := zb hr0 0
      have f1 := zb hr1 0
      have hsm : ∀ k, ((wr.setCell ⟨w.heap.size, 0, none⟩ (ptr (fb + 1))).setCell ⟨w.heap.size + 1, 0, none⟩ .nilIface).heap[k]? = wr.heap[k]? := fun k => by
        have h0 : (wr.setCell ⟨w.heap.size, 0, none⟩ (ptr (fb + 1))).heap[w.heap.size + 1]? = some (.cells #[.nilIface] 34) := (set_heap wr _ _ _ hr0 _).trans hr1
        exact (set_heap _ _ _ _ h0 k).trans (set_heap wr _ _ _ hr0 k)
      have HE : Hid (((wr.setCell ⟨w.heap.size, 0, none⟩ (ptr (fb + 1))).setCell ⟨w.heap.size + 1, 0, none⟩ .nilIface).cell? ⟨w.heap.size, 0, none⟩ = some (ptr (fb + 1)) ∧ ((wr.setCell ⟨w.heap.size, 0, none⟩ (ptr (fb + 1))).setCell ⟨w.heap.size + 1, 0, none⟩ .nilIface).cell? ⟨w.heap.size + 1, 0, none⟩ = some .nilIface ∧ G (.returned (.tuple #[ptr (fb + 1), .nilIface])) ((wr.setCell ⟨w.heap.size, 0, none⟩ (ptr (fb + 1))).setCell ⟨w.heap.size + 1, 0, none⟩ .nilIface)) := by
        refine ⟨z_ (i := 0) ((hsm _).trans hr0) rfl, z_ (i := 0) ((hsm _).trans hr1) rfl, ?_⟩
        rw [HG.out]
        refine ⟨fb + 1, some ⟨fb, 0, none⟩, i, rfl, lo_fin HI.out HLn.out (by omega) HOk.out hsm (by simp), ?_⟩
        have h1 : Below w.heap.size w wr := h5.2.2.2.trans (hb.mono (by omega))
        exact (h1.setCell (p := ⟨w.heap.size, 0, none⟩) (Nat.le_refl _) _).setCell (p := ⟨w.heap.size + 1, 0, none⟩) (Nat.le_succ _) _
      clear hb h5 hr0 hr1 hsm
      go_wp2_with fail
      refine leaves_cons (f := 42) (args := #[ptr w.heap.size, ptr (w.heap.size + 1)]) (by simp) (by simp [go_sem]) ?_
      refine (low_idle w.heap.size (w.heap.size + 1) _).mono ?_
      rintro e u' w7 ⟨rfl, rfl, rfl⟩
      exact ⟨_, res20 _ _ w.heap.size (w.heap.size + 1) _ _ rfl rfl HE.out.1 HE.out.2.1, HE.out.2.2⟩
def mT : By := [102, 110, 32, 109, 97, 105, 110, 40, 41, 32, 123, 32, 118, 97, 114, 32, 97, 32, 61, 32, 110, 101, 119, 40, 50, 41, 59, 32, 97, 91, 49, 93, 32, 61, 32, 54, 59, 32, 105, 102, 32, 40, 97, 91, 49, 93, 32, 62, 32, 53, 32, 38, 38, 32, 108, 101, 110, 40, 97, 41, 32, 61, 61, 32, 50, 41, 32, 123, 32, 112, 114, 105, 110, 116, 32, 97, 91, 49, 93, 59, 32, 125, 32, 114, 101, 116, 117, 114, 110, 32, 102, 40, 97, 44, 32, 50, 41, 59, 32, 125, 32, 102, 110, 32, 102, 40, 120, 58, 32, 97, 114, 114, 44, 32, 110, 58, 32, 105, 110, 116, 41, 32, 123, 32, 114, 101, 116, 117, 114, 110, 32, 120, 91, 110, 93, 59, 32, 125]
def mL : List Fun := funsOf2 (treeOf2 (qh mT))
def mfK (F : Fun) : Mf := match fnK F.ps F.body with
  | some (_, s) => ⟨F.nm, F.ps.length, s.ts, s.ss⟩
  | none => ⟨[], 0, [], []⟩
def mMs : List Mf := mL.map mfK
theorem m_parse : qh mT = .ok (chain (mL.map Fun.tr)) := by kernel_rfl
theorem m_len : mL.length = 2 := by kernel_rfl
theorem m_chk : chk mL = .ok true := by kernel_rfl
theorem m_low : mL.all (fun F => (fnK F.ps F.body).isSome) = true := by kernel_rfl
theorem m_ok : mMs.all (fun m => decide (-9223372036854775808 ≤ m.params) && (decide (m.params ≤ 9223372036854775807) && decide (m.name.length ≤ 9223372036854775807))) = true := by kernel_rfl
theorem m_right : zK mMs = true := by kernel_rfl
theorem m_run : zL 1001 mMs [] 1000 = (3, 0, [6]) := by kernel_rfl
end Go.Proofs.YtnfhpdbbfejioaaGreatDoor.Mid
