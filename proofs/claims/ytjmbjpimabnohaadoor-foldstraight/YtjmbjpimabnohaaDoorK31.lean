/- GN -/
import Derived.Test.YtjmbjpimabnohaaDoorK30
namespace Go.Proofs.YtjmbjpimabnohaaDoor.Mid
set_option linter.unusedVariables false
set_option linter.unusedSimpArgs false
open Go Go.RowKit
def nowV (ps : List Int) (rn : Nat) (k : Nat) : Int := if ps.length < k then 0 else if (rn : Int) ∈ ps.drop k then 0 else 2 ^ rn
def goneV (ps : List Int) (rn : Nat) (j : Nat) : Bool := match ps[j]? with | some p => decide (p ≠ (rn : Int)) | none => false
theorem now_end (ps : List Int) (rn : Nat) : nowV ps rn (ps.length + 1) = 0 := by unfold nowV; rw [if_pos (by omega)]
theorem now_last (ps : List Int) (rn : Nat) : nowV ps rn ps.length = 2 ^ rn := by unfold nowV; rw [if_neg (by omega), List.drop_length, if_neg (by simp)]
theorem gone_last (ps : List Int) (rn : Nat) : goneV ps rn ps.length = false := by unfold goneV; rw [List.getElem?_eq_none (Nat.le_refl _)]
theorem drop_at {ps : List Int} {j : Nat} {p : Int} (h : ps[j]? = some p) : ps.drop j = p :: ps.drop (j + 1) := by
  obtain ⟨hl, e⟩ := List.getElem?_eq_some_iff.1 h
  rw [List.drop_eq_getElem_cons hl, e]
theorem now_step {ps : List Int} (hs : ps.Pairwise (· < ·)) {rn j : Nat} {p : Nat} (h : ps[j]? = some (p : Int)) (hr : rn < 64) (hp : p < 64) :
    goneV ps rn j = (!hasV (nowV ps rn (j + 1)) p) ∧ (goneV ps rn j = true → nowV ps rn j = nowV ps rn (j + 1)) ∧ (goneV ps rn j = false → nowV ps rn j = anV (nowV ps rn (j + 1)) p) := by
  have hjl := (List.getElem?_eq_some_iff.1 h).1
  have hg : goneV ps rn j = decide ((p : Int) ≠ rn) := by unfold goneV; rw [h]
  have hd := drop_at h
  have hlt : ∀ q ∈ ps.drop (j + 1), (p : Int) < q := by
    have h1 : (ps.drop j).Pairwise (· < ·) := hs.sublist (List.drop_sublist _ _)
    rw [hd, List.pairwise_cons] at h1
    exact h1.1
  have n1 : nowV ps rn (j + 1) = if (rn : Int) ∈ ps.drop (j + 1) then 0 else 2 ^ rn := by unfold nowV; rw [if_neg (by omega)]
  have n0 : nowV ps rn j = if (rn : Int) ∈ ps.drop j then 0 else 2 ^ rn := by unfold nowV; rw [if_neg (by omega)]
  by_cases hin : (rn : Int) ∈ ps.drop (j + 1)
  · have hne : (p : Int) ≠ rn := by have := hlt _ hin; omega
    rw [if_pos hin] at n1
    rw [hd, if_pos (List.mem_cons_of_mem _ hin)] at n0
    have h0 := has_0 p hp
    rw [hg, n1, n0, h0, decide_eq_true hne]
    exact ⟨rfl, fun _ => rfl, fun h => by cases h⟩
  · rw [if_neg hin] at n1
    by_cases hpr : p = rn
    · subst hpr
      rw [hd, if_pos (by simp)] at n0
      rw [hg, n1, n0, has_p p p hp hp, an_p p hp]
      simp
    · have hne : (p : Int) ≠ rn := by omega
      have hnm : ¬ (rn : Int) ∈ ps.drop j := by
        rw [hd]
        simp only [List.mem_cons, not_or]
        exact ⟨fun e => hne e.symm, hin⟩
      rw [if_neg hnm] at n0
      rw [hg, n1, n0, has_p rn p hr hp, decide_eq_true hne, decide_eq_false hpr]
      exact ⟨rfl, fun _ => rfl, fun h => by cases h⟩
structure BkF (w : World) (Nb bb gb : Nat) (x : Int) (gs : Array Value) (wr : World) : Prop where
  ko : Ko [bb, gb] w wr
  bx : wr.heap[w.heap.size]? = some (.cells #[ptr Nb] 125)
  now : wr.heap[bb]? = some (wd x)
  gone : wr.heap[gb]? = some (.cells gs 4)
section
variable {w wr w' : World} {Nb bb gb : Nat} {x z : Int} {gs : Array Value}
theorem BkF.or (h : BkF w Nb bb gb x gs wr) (hn : bb ≠ gb) (hw : bb < w.heap.size ∧ gb < w.heap.size) (hk : Ko [bb] wr w') (hx : w'.heap[bb]? = some (wd z)) : BkF w Nb bb gb z gs w' := by
  have h2 := h.ko.size
  exact ⟨h.ko.trans (hk.wide (by intro b hb; simp at hb; simp [hb])), by rw [hk.blk _ (Array.getElem?_eq_some_iff.1 h.bx).1 (by simp; omega)]; exact h.bx, hx, by rw [hk.blk gb (by omega) (by simp; omega)]; exact h.gone⟩
theorem BkF.set (h : BkF w Nb bb gb x gs wr) (hn : bb ≠ gb) (hw : bb < w.heap.size ∧ gb < w.heap.size) (z : Int) : BkF w Nb bb gb z gs (wr.setCell ⟨bb, 0, none⟩ (.int .u64 z)) :=
  h.or hn hw ⟨rfl, rfl, rfl, by simp [World.setCell], fun b hb hz => heap_setCell_other _ _ _ _ (by simpa using hz)⟩ (heap_setCell_same _ _ _ _ _ _ h.now)
theorem BkF.more (h : BkF w Nb bb gb x gs wr) (hw : bb < w.heap.size ∧ gb < w.heap.size) (hk : Below wr.heap.size wr w') : BkF w Nb bb gb x gs w' := by
  have h2 := h.ko.size
  exact ⟨h.ko.trans (Ko.of_below hk), by rw [hk.block _ (Array.getElem?_eq_some_iff.1 h.bx).1]; exact h.bx, by rw [hk.block bb (by omega)]; exact h.now, by rw [hk.block gb (by omega)]; exact h.gone⟩
theorem BkF.sm (h : BkF w Nb bb gb x gs wr) (hk : Sm0 wr w') : BkF w Nb bb gb x gs w' := ⟨h.ko.trans (hk.ko _), by rw [hk.heap]; exact h.bx, by rw [hk.heap]; exact h.now, by rw [hk.heap]; exact h.gone⟩
theorem BkF.setg (h : BkF w Nb bb gb x gs wr) (hn : bb ≠ gb) (hw : bb < w.heap.size ∧ gb < w.heap.size) (j : Nat) (t : Bool) : BkF w Nb bb gb x (gs.setIfInBounds j (.bool t)) (wr.setCell ⟨gb, j, none⟩ (.bool t)) :=
  ⟨h.ko.trans ⟨rfl, rfl, rfl, by simp [World.setCell], fun b hb hz => heap_setCell_other _ _ _ _ (by
    simp only [List.mem_cons, List.not_mem_nil, or_false, not_or] at hz
    exact hz.2)⟩, by rw [heap_setCell_other _ _ _ _ (by show w.heap.size ≠ gb; omega)]; exact h.bx, by rw [heap_setCell_other _ _ _ _ (by show bb ≠ gb; exact hn)]; exact h.now, heap_setCell_same _ _ _ _ _ _ h.gone⟩
end
structure BkG (ps : List Int) (rn ns k : Nat) (gs : Array Value) : Prop where
  size : gs.size = ns
  done : ∀ j, k ≤ j → j < ns → gs[j]? = some (.bool (goneV ps rn j))
theorem BkG.put {ps : List Int} {rn ns j : Nat} {gs : Array Value} (h : BkG ps rn ns (j + 1) gs) (hj : j < ns) (t : Bool) (ht : goneV ps rn j = t) : BkG ps rn ns j (gs.setIfInBounds j (.bool t)) := by
  refine ⟨by simp; exact h.size, fun i hi hl => ?_⟩
  rw [Array.getElem?_setIfInBounds]
  split
  · rename_i e
    rw [if_pos (by rw [h.size]; exact hj), ← e, ht]
  · exact h.done i (by omega) hl
def BaP (w : World) (bb gb ns rn : Nat) (ps : List Int) (e : Ending) (w' : World) : Prop := e = .returned (.bool false) ∧ (∃ gs, w'.heap[gb]? = some (.cells gs 4) ∧ BkG ps rn ns 0 gs) ∧ Ko [bb, gb] w w'
set_option maxRecDepth 100000 in
set_option maxHeartbeats 8000000 in
theorem back_74 (w : World) (B : Nat) (y : ByteArray) (nt tc sb sc ns rn Nb mb ib bb gb tb : Nat) (env : Int → Int) (ps : List Int) (gs0 : Array Value)
    (hb : w.heap[Nb]? = some (ndO y (.slice (some ⟨tb, 0, none⟩) nt tc) (.slice (some ⟨sb, 0, none⟩) ns sc) mb ib bb gb ns)) (hx : w.heap[bb]? = some (wd 0)) (hgn : w.heap[gb]? = some (.cells gs0 4)) (hgs : gs0.size = ns)
    (ho : w.ownsRow B 44 10 (.slice (some ⟨sb, 0, none⟩) ns sc) ns (rowC (ps.map (fun p => cn p (env p)) ++ [rt (rn : Int)]))) (ht : ∀ p, p < nt → w.cell? ⟨tb, p, none⟩ = some (.int .i64 1)) (hff : FfE w)
    (hns : ps.length + 1 = ns) (hps : ps.Pairwise (· < ·)) (hpb : ∀ p ∈ ps, 0 ≤ p ∧ p < nt) (hr : rn < nt) (hnt : nt ≤ 64) (hl : ns ≤ 1000)
    (hn : bb ≠ gb) (n1 : Nb ≠ bb ∧ Nb ≠ gb) (n2 : sb ≠ bb ∧ sb ≠ gb) (n3 : tb ≠ bb ∧ tb ≠ gb) (n4 : 2 ≠ bb ∧ 2 ≠ gb) :
    Calls Tryd.prog 74 #[ptr Nb] w (BaP w bb gb ns rn ps) := by
  obtain ⟨l, hll⟩ : ∃ l, l = ps.map (fun p => cn p (env p)) ++ [rt (rn : Int)] := ⟨_, rfl⟩
  have hlen : l.length = ns := by rw [hll]; simp; omega
  have hlast : l[ps.length]? = some (rt (rn : Int)) := by rw [hll, List.getElem?_append_right (by simp)]; simp
  have hfront : ∀ j p, ps[j]? = some p → l[j]? = some (cn p (env p)) := fun j p h => by
    have hj := (List.getElem?_eq_some_iff.1 h).1
    rw [hll, List.getElem?_append_left (by simpa using hj), List.getElem?_map, h]
    rfl
  rw [← hll] at ho
  have hbl : bb < w.heap.size ∧ gb < w.heap.size := ⟨(Array.getElem?_eq_some_iff.1 hx).1, (Array.getElem?_eq_some_iff.1 hgn).1⟩
  have hNl := (Array.getElem?_eq_some_iff.1 hb).1
  obtain ⟨W1, hW1⟩ : ∃ W1, W1 = w.alloc (.cells #[ptr Nb] 125) := ⟨_, rfl⟩
  have hB1 : Below w.heap.size w W1 := by rw [hW1]; exact al_bel _ _
  have HI0 : Hid (BkF w Nb bb gb (nowV ps rn ns) gs0 W1 ∧ BkG ps rn ns ns gs0) := by
    refine ⟨⟨Ko.of_below hB1, by rw [hW1]; exact heap_alloc_last _ _, ?_, by rw [hB1.block gb hbl.2]; exact hgn⟩, ⟨hgs, fun j h1 h2 => by omega⟩⟩
    rw [← hns, now_end, hB1.block bb hbl.1]
    exact hx
  have HC : Hid (bb ≠ gb ∧ bb < w.heap.size ∧ gb < w.heap.size) := ⟨hn, hbl⟩
  have HN : Hid (∀ wr x gs, BkF w Nb bb gb x gs wr → wr.heap[Nb]? = some (ndO y (.slice (some ⟨tb, 0, none⟩) nt tc) (.slice (some ⟨sb, 0, none⟩) ns sc) mb ib bb gb ns)) := fun wr x gs h => by
    rw [h.ko.blk Nb hNl (by simp; omega)]; exact hb
  have HS : Hid (∀ wr x gs j s, BkF w Nb bb gb x gs wr → l[j]? = some s → wr.cell? ⟨sb, j * 10, none⟩ = some (.int .i64 s.code) ∧ wr.cell? ⟨sb, j * 10 + 1, none⟩ = some (.int .i64 s.dst) ∧ wr.cell? ⟨sb, j * 10 + 2, none⟩ = some (.int .i64 s.a)) := fun wr x gs j s h hs => by
    obtain ⟨g, e, hc⟩ := row_step ho hs
    injection e with e
    injection e with e
    subst e
    have hsn : sb ∉ [bb, gb] := by simp; omega
    have h0 := hc 0 (by omega)
    rw [Nat.add_zero] at h0
    exact ⟨h.ko.cell hsn h0, h.ko.cell hsn (hc 1 (by omega)), h.ko.cell hsn (hc 2 (by omega))⟩
  have HT : Hid (∀ wr x gs p, BkF w Nb bb gb x gs wr → p < nt → wr.cell? ⟨tb, p, none⟩ = some (.int .i64 1)) := fun wr x gs p h hp => h.ko.cell (by simp; omega) (ht p hp)
  have HFf : Hid (∀ wr x gs, BkF w Nb bb gb x gs wr → FfE wr) := fun wr x gs h => hff.on (by simp; omega) h.ko
  have HL : Hid (l.length = ns ∧ l[ps.length]? = some (rt (rn : Int)) ∧ ∀ j p, ps[j]? = some p → l[j]? = some (cn p (env p))) := ⟨hlen, hlast, hfront⟩
  have HPl : Hid (ps.length + 1 = ns ∧ ps.Pairwise (· < ·) ∧ ∀ p ∈ ps, 0 ≤ p ∧ p < nt) := ⟨hns, hps, hpb⟩
  have hNs : sb ≠ bb := n2.1
  generalize hG : BaP w bb gb ns rn ps = G
  have HG : Hid (BaP w bb gb ns rn ps = G) := hG
  have hmf : ∀ (fn : Fn) (first cap : Array Value) (w : World), (Instr.makeFunc fn first cap).run Tryd.prog w = .ok (.func fn first cap) w := fun _ _ _ _ => rfl
  have u0 := cell_at (i := 0) HI0.out.1.bx rfl
  have u3 := cell_at (i := 3) (HN.out _ _ _ HI0.out.1) rfl
  rw [hW1] at u0 u3
  clear hb hx hgn hgs ho ht hff hns hps hpb n1 n2 n3 n4 hll hlen hlast hfront hbl hNl hB1 hG hn
  go_enter Tryd.func74, Tryd.ntmps74
  go_wp2_with fail
  rw [← hW1]
  clear hW1 u0 u3
  go_loopw [3, 4] (fun v3 v4 wr => ∃ (k : Nat) (gs : Array Value), k ≤ ns ∧ v3 = .bool false ∧ v4 = .int .i64 ((k : Int) - 1) ∧ Hid (BkF w Nb bb gb (nowV ps rn k) gs wr ∧ BkG ps rn ns k gs)) (fun _ v _ => (intOf v + 1).toNat)
  case atStart => exact ⟨ns, gs0, Nat.le_refl _, rfl, by go_num, HI0⟩
  case round =>
    obtain ⟨k, gs, hkn, rfl, rfl, HI⟩ := hrel
    rcases Nat.eq_zero_or_pos k with rfl | hk
    · have HX : Hid (G (.returned (.bool false)) wr) := by
        show G _ _
        rw [← HG.out]
        exact ⟨rfl, ⟨gs, HI.out.1.gone, HI.out.2⟩, HI.out.1.ko⟩
      go_wp2
      exact HX.out
    · obtain ⟨j, rfl⟩ : ∃ j, k = j + 1 := ⟨k - 1, by omega⟩
      have ej : (((j + 1 : Nat) : Int) - 1) = (j : Int) := by omega
      rw [ej]
      have hl9 : (j : Int) < (ns : Int) := by omega
      have hz9 : ¬ (j : Int) < 0 := by omega
      have x0 := cell_at (i := 0) HI.out.1.bx rfl
      have x3 := cell_at (i := 3) (HN.out _ _ _ HI.out.1) rfl
      have x6 := cell_at (i := 6) (HN.out _ _ _ HI.out.1) rfl
      have HGs : Hid (∃ u, gs[j]? = some u) := ⟨_, Array.getElem?_eq_getElem (by rw [HI.out.2.size]; omega)⟩
      by_cases hlst : j = ps.length
      · have HLs : Hid (j = ps.length) := hlst
        have hs8 : l[j]? = some (rt (rn : Int)) := by rw [hlst]; exact HL.out.2.1
        obtain ⟨s0, -, s2⟩ := HS.out wr _ _ j _ HI.out.1 hs8
        have s0' : wr.cell? ⟨sb, j * 10, none⟩ = some (.int .i64 8) := s0
        have hclr := clear_word wr bb _ HI.out.1.now
        obtain ⟨W2, hW2⟩ : ∃ W2, W2 = wr.setCell ⟨bb, 0, none⟩ (.int .u64 0) := ⟨_, rfl⟩
        have HF2 : Hid (BkF w Nb bb gb 0 gs W2) := by rw [hW2]; exact HI.out.1.set HC.out.1 HC.out.2 0
        rw [← hW2] at hclr
        have HJ : Hid (Calls Tryd.prog 70 #[.pointer (some ⟨sb, j * 10, none⟩)] W2 (fun e w' => e = .returned (.bool false) ∧ BkF w Nb bb gb 0 gs w')) := (jumps_any W2 sb (j * 10) 8 (HS.out W2 _ _ j _ HF2.out hs8).1 (by decide) (by decide)).mono (fun e w' h => ⟨h.1, by rw [h.2]; exact HF2.out⟩)
        have HS8 : Hid (l[j]? = some (rt (rn : Int))) := hs8
        clear s0 s2 hW2 hlst hs8
        go_wp2_with (go_at_call 70; fail)
        clear hclr x0 x3 x6 s0'
        refine HJ.out.mono ?_
        rintro e w5 ⟨rfl, h5⟩
        have HF5 : Hid (BkF w Nb bb gb 0 gs w5) := h5
        have HNd : Hid (∀ W, W = w5.drew → Calls Tryd.prog 90 #[ptr Nb, .pointer (some ⟨sb, j * 10, none⟩)] W (fun e w' => e = .returned (.bool false) ∧ BkF w Nb bb gb 0 gs w')) := fun W hW => by
          subst hW
          have h5d : BkF w Nb bb gb 0 gs w5.drew := HF5.out.sm ⟨fun _ => rfl, rfl, rfl, rfl, rfl⟩
          exact (needless_8 w5.drew Nb sb (j * 10) (HFf.out _ _ _ h5d) (HS.out _ _ _ j _ h5d HS8.out).1).mono (fun e w' h => ⟨h.1, h5d.sm h.2⟩)
        have y0 : w5.drew.cell? ⟨w.heap.size, 0, none⟩ = some (ptr Nb) := cell_at (w := w5) (i := 0) h5.bx rfl
        have y7 : w5.drew.cell? ⟨Nb, 7, none⟩ = some (.slice (some ⟨gb, 0, none⟩) ns ns) := cell_at (w := w5) (i := 7) (HN.out _ _ _ h5) rfl
        clear h5 HF2 HJ
        go_wp2_with fail
        go_region_with (go_at_call 90; refine (HNd.out _ rfl).mono ?_; rintro e w6 ⟨rfl, h6⟩; have HF6 : Hid (BkF w Nb bb gb 0 gs w6) := h6; obtain ⟨ug, hug⟩ := HGs.out; have z0 : w6.cell? ⟨w.heap.size, 0, none⟩ = some (ptr Nb) := cell_at (i := 0) h6.bx rfl; have z7 : w6.cell? ⟨Nb, 7, none⟩ = some (.slice (some ⟨gb, 0, none⟩) ns ns) := cell_at (i := 7) (HN.out _ _ _ h6) rfl; have zg : w6.cell? ⟨gb, j, none⟩ = some ug := cell_at h6.gone hug; have zf : w6.frozen? ⟨gb, j, none⟩ = false := row_free h6.gone j; clear h6 hug)
        all_goals
          clear y0 y7
          obtain ⟨W7, hW7⟩ : ∃ W7, W7 = w6.setCell ⟨gb, j, none⟩ (.bool false) := ⟨_, rfl⟩
          have h7 : BkF w Nb bb gb 0 (gs.setIfInBounds j (.bool false)) W7 := by rw [hW7]; exact HF6.out.setg HC.out.1 HC.out.2 j false
          have g7 : BkG ps rn ns j (gs.setIfInBounds j (.bool false)) := HI.out.2.put (by omega) false (by rw [HLs.out]; exact gone_last ps rn)
          have HF7 : Hid (BkF w Nb bb gb 0 (gs.setIfInBounds j (.bool false)) W7 ∧ BkG ps rn ns j (gs.setIfInBounds j (.bool false))) := ⟨h7, g7⟩
          obtain ⟨s0, -, s2⟩ := HS.out W7 _ _ j _ h7 HS8.out
          have s0' : W7.cell? ⟨sb, j * 10, none⟩ = some (.int .i64 8) := s0
          have s2' : W7.cell? ⟨sb, j * 10 + 2, none⟩ = some (.int .i64 (rn : Int)) := s2
          have y0 : W7.cell? ⟨w.heap.size, 0, none⟩ = some (ptr Nb) := cell_at (i := 0) h7.bx rfl
          have y7 : W7.cell? ⟨Nb, 7, none⟩ = some (.slice (some ⟨gb, 0, none⟩) ns ns) := cell_at (i := 7) (HN.out _ _ _ h7) rfl
          have yg : W7.cell? ⟨gb, j, none⟩ = some (.bool false) := cell_at h7.gone (by rw [g7.done j (Nat.le_refl _) (by omega), HLs.out, gone_last])
          have hF1 := HFf.out _ _ _ h7
          obtain ⟨-, -, -, g8, -⟩ := hF1 8 (by omega)
          simp only [ffm] at g8
          have HRd : Hid (Calls Tryd.prog 84 #[.pointer (some ⟨sb, j * 10, none⟩), look91V w.heap.size] W7 (OrP W7 bb 0 rn)) := reads91_8 W7 y _ _ w.heap.size Nb mb ib bb gb ns sb (j * 10) rn 0 y0 (HN.out _ _ _ h7) h7.now hNs (by omega) hF1 s0' s2'
          clear h7 g7 s0 s2 s2' hF1 z0 z7 zg zf HF6
          rw [← hW7]
          clear hW7
          go_wp2_with (go_at_call 84; fail)
          clear y0 y7 yg s0' g8
          refine HRd.out.mono ?_
          rintro e w8 ⟨rfl, q1, q2⟩
          have HF8 : Hid (BkF w Nb bb gb (nowV ps rn j) (gs.setIfInBounds j (.bool false)) w8 ∧ BkG ps rn ns j (gs.setIfInBounds j (.bool false))) := by
            refine ⟨HF7.out.1.or HC.out.1 HC.out.2 q2 ?_, HF7.out.2⟩
            rw [HLs.out, now_last, ← or_0 rn (by omega)]
            exact q1
          clear q1 q2
          go_wp2
          exact ⟨⟨j, _, by omega, rfl, rfl, HF8⟩, by simp [intOf]⟩
      · have hjl : j < ps.length := by have := HPl.out.1; omega
        obtain ⟨p, hp⟩ : ∃ p, ps[j]? = some p := ⟨ps[j], List.getElem?_eq_getElem hjl⟩
        have hpb := HPl.out.2.2 p (List.mem_of_getElem? hp)
        obtain ⟨pn, rfl⟩ : ∃ pn : Nat, p = (pn : Int) := ⟨p.toNat, by omega⟩
        have hs1 := HL.out.2.2 j _ hp
        have hp64 : pn < 64 := by omega
        have hpnt : pn < nt := by omega
        obtain ⟨st1, st2, st3⟩ := now_step (rn := rn) HPl.out.2.1 hp (by omega) hp64
        have HS1 : Hid (l[j]? = some (cn (pn : Int) (env (pn : Int)))) := hs1
        have HSt : Hid (goneV ps rn j = (!hasV (nowV ps rn (j + 1)) pn) ∧ (goneV ps rn j = true → nowV ps rn j = nowV ps rn (j + 1)) ∧ (goneV ps rn j = false → nowV ps rn j = anV (nowV ps rn (j + 1)) pn)) := ⟨st1, st2, st3⟩
        obtain ⟨s0, s1, -⟩ := HS.out wr _ _ j _ HI.out.1 hs1
        have s0' : wr.cell? ⟨sb, j * 10, none⟩ = some (.int .i64 1) := s0
        have HJ : Hid (Calls Tryd.prog 70 #[.pointer (some ⟨sb, j * 10, none⟩)] wr (fun e w' => e = .returned (.bool false) ∧ BkF w Nb bb gb (nowV ps rn (j + 1)) gs w')) := (jumps_any wr sb (j * 10) 1 s0' (by decide) (by decide)).mono (fun e w' h => ⟨h.1, by rw [h.2]; exact HI.out.1⟩)
        obtain ⟨x, hx⟩ : ∃ x, nowV ps rn (j + 1) = x := ⟨_, rfl⟩
        have HX : Hid (nowV ps rn (j + 1) = x) := hx
        rw [hx] at HJ HSt
        have HGp : Hid (BkG ps rn ns (j + 1) gs) := HI.out.2
        clear s0 s1 hs1 hp hpb hjl hlst st1 st2 st3 hx
        go_wp2_with (go_at_call 70; fail)
        clear x0 x3 x6 s0'
        refine HJ.out.mono ?_
        rintro e w5 ⟨rfl, h5⟩
        have HF5 : Hid (BkF w Nb bb gb x gs w5) := h5
        obtain ⟨t, hgv⟩ : ∃ t, goneV ps rn j = t := ⟨_, rfl⟩
        rw [hgv] at HSt
        have HGv : Hid (goneV ps rn j = t) := hgv
        have HNd : Hid (∀ W, W = w5.drew → Calls Tryd.prog 90 #[ptr Nb, .pointer (some ⟨sb, j * 10, none⟩)] W (fun e w' => e = .returned (.bool t) ∧ BkF w Nb bb gb x gs w')) := fun W hW => by
          subst hW
          have h5d : BkF w Nb bb gb x gs w5.drew := HF5.out.sm ⟨fun _ => rfl, rfl, rfl, rfl, rfl⟩
          obtain ⟨a0, a1, -⟩ := HS.out _ _ _ j _ h5d HS1.out
          have a0' : w5.drew.cell? ⟨sb, j * 10, none⟩ = some (.int .i64 1) := a0
          have a1' : w5.drew.cell? ⟨sb, j * 10 + 1, none⟩ = some (.int .i64 (pn : Int)) := a1
          exact (needless_1 w5.drew y _ nt tc Nb mb ib bb gb ns sb (j * 10) tb pn x (HN.out _ _ _ h5d) h5d.now (HT.out _ _ _ pn h5d hpnt) (HFf.out _ _ _ h5d) a0' a1' hpnt hnt).mono (fun e w' h => ⟨by rw [h.1, HSt.out.1], h5d.sm h.2⟩)
        have y0 : w5.drew.cell? ⟨w.heap.size, 0, none⟩ = some (ptr Nb) := cell_at (w := w5) (i := 0) h5.bx rfl
        have y7 : w5.drew.cell? ⟨Nb, 7, none⟩ = some (.slice (some ⟨gb, 0, none⟩) ns ns) := cell_at (w := w5) (i := 7) (HN.out _ _ _ h5) rfl
        clear h5 HJ hgv
        go_wp2_with fail
        go_region_with (go_at_call 90; refine (HNd.out _ rfl).mono ?_; rintro e w6 ⟨rfl, h6⟩; have HF6 : Hid (BkF w Nb bb gb x gs w6) := h6; obtain ⟨ug, hug⟩ := HGs.out; have z0 : w6.cell? ⟨w.heap.size, 0, none⟩ = some (ptr Nb) := cell_at (i := 0) h6.bx rfl; have z7 : w6.cell? ⟨Nb, 7, none⟩ = some (.slice (some ⟨gb, 0, none⟩) ns ns) := cell_at (i := 7) (HN.out _ _ _ h6) rfl; have zg : w6.cell? ⟨gb, j, none⟩ = some ug := cell_at h6.gone hug; have zf : w6.frozen? ⟨gb, j, none⟩ = false := row_free h6.gone j; clear h6 hug)
        all_goals
          clear y0 y7
          obtain ⟨W7, hW7⟩ : ∃ W7, W7 = w6.setCell ⟨gb, j, none⟩ (.bool t) := ⟨_, rfl⟩
          have h7 : BkF w Nb bb gb x (gs.setIfInBounds j (.bool t)) W7 := by rw [hW7]; exact HF6.out.setg HC.out.1 HC.out.2 j t
          have g7 : BkG ps rn ns j (gs.setIfInBounds j (.bool t)) := HGp.out.put (by omega) t HGv.out
          have HF7 : Hid (BkF w Nb bb gb x (gs.setIfInBounds j (.bool t)) W7 ∧ BkG ps rn ns j (gs.setIfInBounds j (.bool t))) := ⟨h7, g7⟩
          obtain ⟨s0, s1, -⟩ := HS.out W7 _ _ j _ h7 HS1.out
          have s0' : W7.cell? ⟨sb, j * 10, none⟩ = some (.int .i64 1) := s0
          have s1' : W7.drew.cell? ⟨sb, j * 10 + 1, none⟩ = some (.int .i64 (pn : Int)) := s1
          have y0 : W7.cell? ⟨w.heap.size, 0, none⟩ = some (ptr Nb) := cell_at (i := 0) h7.bx rfl
          have y7 : W7.cell? ⟨Nb, 7, none⟩ = some (.slice (some ⟨gb, 0, none⟩) ns ns) := cell_at (i := 7) (HN.out _ _ _ h7) rfl
          have yg : W7.cell? ⟨gb, j, none⟩ = some (.bool t) := cell_at h7.gone (by rw [g7.done j (Nat.le_refl _) (by omega), HGv.out])
          have y0' : W7.drew.cell? ⟨w.heap.size, 0, none⟩ = some (ptr Nb) := y0
          have y6' : W7.drew.cell? ⟨Nb, 6, none⟩ = some (.slice (some ⟨bb, 0, none⟩) 1 1) := cell_at (w := W7) (i := 6) (HN.out _ _ _ h7) rfl
          have hF1 := HFf.out _ _ _ h7
          obtain ⟨-, -, -, g1, -⟩ := hF1 1 (by omega)
          simp only [ffm] at g1
          have HDr : Hid (∀ W, W = W7.drew → Calls Tryd.prog 88 #[.slice (some ⟨bb, 0, none⟩) 1 1, .int .i64 (pn : Int)] W (fun e w' => e = .returned (.tuple #[]) ∧ BkF w Nb bb gb (anV x pn) (gs.setIfInBounds j (.bool t)) w')) := fun W hW => by
            subst hW
            have h7d : BkF w Nb bb gb x (gs.setIfInBounds j (.bool t)) W7.drew := HF7.out.1.sm ⟨fun _ => rfl, rfl, rfl, rfl, rfl⟩
            refine (drop_88 W7.drew bb pn x hp64 h7d.now).mono ?_
            intro e w' h
            obtain ⟨rfl, h4, h5⟩ := h.ko (x := x) h7d.now
            exact ⟨rfl, h7d.or HC.out.1 HC.out.2 h5 h4⟩
          clear h7 g7 s0 s1 hF1 z0 z7 zg zf HF6
          rw [← hW7]
          clear hW7
          cases t with
          | true =>
            have HF8 : Hid (BkF w Nb bb gb (nowV ps rn j) (gs.setIfInBounds j (.bool true)) W7 ∧ BkG ps rn ns j (gs.setIfInBounds j (.bool true))) := by
              refine ⟨?_, HF7.out.2⟩
              rw [HSt.out.2.1 rfl]
              exact HF7.out.1
            clear y0' y6' s1' s0' g1
            go_wp2
            exact ⟨⟨j, _, by omega, rfl, rfl, HF8⟩, by simp [intOf]⟩
          | false =>
            have HNw : Hid (nowV ps rn j = anV x pn) := HSt.out.2.2 rfl
            clear HSt HNd
            go_wp2_with fail
            clear y0 y7 yg g1 s0'
            go_region_with (go_at_call 88; refine (HDr.out _ rfl).mono ?_; rintro e w8 ⟨rfl, h8⟩; have HF8 : Hid (BkF w Nb bb gb (anV x pn) (gs.setIfInBounds j (.bool false)) w8) := h8; clear h8)
            all_goals
              clear y0' y6' s1'
              have HRd : Hid (Calls Tryd.prog 84 #[.pointer (some ⟨sb, j * 10, none⟩), look91V w.heap.size] w8 (fun e w' => e = .returned (.tuple #[]) ∧ BkF w Nb bb gb (anV x pn) (gs.setIfInBounds j (.bool false)) w')) := (reads91_1 w8 w.heap.size sb (j * 10) (HFf.out _ _ _ HF8.out) (HS.out _ _ _ j _ HF8.out HS1.out).1).mono (fun e w' h => ⟨h.1, HF8.out.more HC.out.2 h.2⟩)
              go_wp2_with (go_at_call 84; fail)
              refine HRd.out.mono ?_
              rintro e w9 ⟨rfl, h9⟩
              have HF9 : Hid (BkF w Nb bb gb (nowV ps rn j) (gs.setIfInBounds j (.bool false)) w9 ∧ BkG ps rn ns j (gs.setIfInBounds j (.bool false))) := by
                refine ⟨?_, HF7.out.2⟩
                rw [HNw.out]
                exact h9
              clear h9
              go_wp2
              exact ⟨⟨j, _, by omega, rfl, rfl, HF9⟩, by simp [intOf]⟩
end Go.Proofs.YtjmbjpimabnohaaDoor.Mid
