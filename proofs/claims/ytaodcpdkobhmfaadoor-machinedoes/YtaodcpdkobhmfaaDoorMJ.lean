/- The document's outside (an Ecall), walked. The document's outside: a number is told; a number is taken; an Ecall, whatever the machine has. The document's outside: a number is taken. -/
import Derived.Test.YtaodcpdkobhmfaaDoorS2
import Derived.Test.YtaodcpdkobhmfaaDoorMF
namespace Go.Proofs.YtaodcpdkobhmfaaDoor
open Go Go.RowKit

theorem DMac.ovform {w : World} {B s mb n L : Nat} {m : MS} {gv ov : Value} (h : DMac w B s mb n L m gv ov) : ∃ q c, ov = .slice q m.out.length c := by
  rcases h.own.2 with ⟨h1, h2⟩ | ⟨g, cap, cur, hv, _⟩
  · exact ⟨none, 0, by rw [h1, h2]⟩
  · exact ⟨_, _, hv⟩

theorem DPost.drew {w w' : World} {B s mb n L : Nat} {m : MS} {ov : Value} (h : DPost w B s mb n L m ov w') : DPost w B s mb n L m ov w'.drew := by
  obtain ⟨gv2, ov2, hm, ho, hk⟩ := h
  exact ⟨gv2, ov2, hm.drew, ho.drew, hk⟩

/-- It ends in a way, without a code. -/
theorem DPost.way {w : World} {B s mb n L : Nat} {m : MS} {gv ov : Value} (h : DMac w B s mb n L m gv ov) (hc : m.code = 0) (v : Int) : DPost w B s mb n L { m with way := v, code := 0 } ov (w.setCell ⟨s, 36, none⟩ (.int .i64 v)) := by
  have e : ({ m with way := v, code := 0 } : MS) = { m with way := v } := by rw [← hc]
  rw [e]
  exact DPost.of (h.inS (off_s _ _) (h.core.setWay v) rfl rfl) (off_s _ _).ws

set_option maxRecDepth 100000 in
set_option maxHeartbeats 1000000 in
theorem out_bad (w : World) (B s mb n L : Nat) (m : MS) (gv ov : Value) (h : DMac w B s mb n L m gv ov) (hc : m.code = 0) (h1 : m.R 17 ≠ 1) (h2 : m.R 17 ≠ 2) (h3 : m.R 17 ≠ 3) :
    Calls Tryd.prog 35 #[.pointer (some ⟨s, 0, none⟩)] w fun e w' => e = .returned (.tuple #[]) ∧ DPost w B s mb n L { m with way := 9, code := 0 } ov w' := by
  have HM : Hid (DPost w B s mb n L { m with way := 9, code := 0 } ov (w.setCell ⟨s, 36, none⟩ (.int .i64 9))) := DPost.way h hc 9
  have r10 := h.core.reg 10 (by omega)
  have r17 := h.core.reg 17 (by omega)
  have c36 := h.core.way
  have f36 := h.core.fs 36
  clear h hc
  generalize m.R 17 = x at *
  generalize m.R 10 = y at *
  go_enter Tryd.func35, Tryd.ntmps35
  go_wp2
  go_end0
  exact ⟨rfl, HM.out⟩

set_option maxRecDepth 100000 in
set_option maxHeartbeats 1000000 in
theorem out_full (w : World) (B s mb n L : Nat) (m : MS) (gv ov : Value) (h : DMac w B s mb n L m gv ov) (hc : m.code = 0) (h1 : m.R 17 = 1) (h2 : 200 ≤ m.out.length) :
    Calls Tryd.prog 35 #[.pointer (some ⟨s, 0, none⟩)] w fun e w' => e = .returned (.tuple #[]) ∧ DPost w B s mb n L { m with way := 7, code := 0 } ov w' := by
  have HM : Hid (DPost w B s mb n L { m with way := 7, code := 0 } ov (w.setCell ⟨s, 36, none⟩ (.int .i64 7))) := DPost.way h hc 7
  obtain ⟨q, c, hov⟩ := h.ovform
  have r10 := h.core.reg 10 (by omega)
  have r17 := h.core.reg 17 (by omega)
  have c36 := h.core.way
  have c38 := h.core.out
  have f36 := h.core.fs 36
  have o2 := h.o2
  rw [hov] at c38
  rw [h1] at r17
  clear h hc h1 hov
  generalize m.R 10 = y at *
  generalize m.out.length = k at *
  go_enter Tryd.func35, Tryd.ntmps35
  go_wp2
  go_end0
  exact ⟨rfl, HM.out⟩

set_option maxRecDepth 100000 in
set_option maxHeartbeats 1000000 in
theorem out_noway (w : World) (B s mb n L : Nat) (m : MS) (gv ov : Value) (h : DMac w B s mb n L m gv ov) (hc : m.code = 0) (h1 : m.R 17 = 3) (h2 : m.R 10 < 1 ∨ 8 < m.R 10) :
    Calls Tryd.prog 35 #[.pointer (some ⟨s, 0, none⟩)] w fun e w' => e = .returned (.tuple #[]) ∧ DPost w B s mb n L { m with way := 9, code := 0 } ov w' := by
  have HM : Hid (DPost w B s mb n L { m with way := 9, code := 0 } ov (w.setCell ⟨s, 36, none⟩ (.int .i64 9))) := DPost.way h hc 9
  have r10 := h.core.reg 10 (by omega)
  have r17 := h.core.reg 17 (by omega)
  have c36 := h.core.way
  have f36 := h.core.fs 36
  rw [h1] at r17
  have HI : Hid ((decide (1 ≤ m.R 10) && decide (m.R 10 ≤ 8)) = false) := by
    show _ = _
    simp; omega
  clear h hc h1 h2
  generalize m.R 10 = y at *
  go_enter Tryd.func35, Tryd.ntmps35
  go_wp2_with (first
    | (go_at_call 36; refine (in_any _ _ _ _).mono ?_; rw [HI.out]; rintro e w ⟨rfl, rfl⟩)
    | go_in)
  go_end0
  exact ⟨rfl, HM.out⟩

set_option maxRecDepth 100000 in
set_option maxHeartbeats 1000000 in
theorem out_end (w : World) (B s mb n L : Nat) (m : MS) (gv ov : Value) (h : DMac w B s mb n L m gv ov) (h1 : m.R 17 = 3) (h2 : 1 ≤ m.R 10) (h3 : m.R 10 ≤ 8) :
    Calls Tryd.prog 35 #[.pointer (some ⟨s, 0, none⟩)] w fun e w' => e = .returned (.tuple #[]) ∧ DPost w B s mb n L { m with way := m.R 10, code := m.R 11 } ov w' := by
  have HM : Hid (DPost w B s mb n L { m with way := m.R 10, code := m.R 11 } ov ((w.setCell ⟨s, 36, none⟩ (.int .i64 (m.R 10))).setCell ⟨s, 37, none⟩ (.int .i64 (m.R 11)))) := DPost.stop h _ _
  have r10 := h.core.reg 10 (by omega)
  have r11 := h.core.reg 11 (by omega)
  have r17 := h.core.reg 17 (by omega)
  have c36 := h.core.way
  have c37 := h.core.cod
  have f36 := h.core.fs 36
  have f37 := h.core.fs 37
  rw [h1] at r17
  have HI : Hid ((decide (1 ≤ m.R 10) && decide (m.R 10 ≤ 8)) = true) := by
    show _ = _
    simp; omega
  clear h h1 h2 h3
  generalize m.R 10 = y at *
  generalize m.R 11 = z at *
  go_enter Tryd.func35, Tryd.ntmps35
  go_wp2_with (first
    | (go_at_call 36; refine (in_any _ _ _ _).mono ?_; rw [HI.out]; rintro e w ⟨rfl, rfl⟩)
    | go_in)
  go_end0
  exact ⟨rfl, HM.out⟩

set_option maxRecDepth 100000 in
set_option maxHeartbeats 1000000 in
theorem out_give0 (w : World) (B s mb n L : Nat) (m : MS) (gv ov : Value) (h : DMac w B s mb n L m gv ov) (h1 : m.R 17 = 2) (h2 : m.G = []) :
    Calls Tryd.prog 35 #[.pointer (some ⟨s, 0, none⟩)] w fun e w' => e = .returned (.tuple #[]) ∧ DPost w B s mb n L { m with R := upd m.R 10 0 } ov w' := by
  have HM : Hid (DPost w B s mb n L { m with R := upd m.R 10 0 } ov (w.setCell ⟨s, 10, none⟩ (.int .i64 0))) := DPost.of (h.setReg 10 (by omega) 0) (off_s _ _).ws
  have r10 := h.core.reg 10 (by omega)
  have r17 := h.core.reg 17 (by omega)
  have f10 := h.core.fs 10
  rw [h1] at r17
  have hg : ∃ p c, gv = .slice p 0 c := by
    rcases h.giv with h' | ⟨gb, o, c, h', _⟩
    · exact h'.2
    · rw [h2] at h'; exact ⟨_, _, h'⟩
  obtain ⟨p, c, hgv⟩ := hg
  have c35 : (w.setCell ⟨s, 10, none⟩ (.int .i64 0)).cell? ⟨s, 35, none⟩ = some (.slice p 0 c) := by
    rw [← hgv]; exact (h.setReg 10 (by omega) 0).core.giv
  clear h h1 h2 hgv
  generalize m.R 10 = y at *
  go_enter Tryd.func35, Tryd.ntmps35
  go_wp2
  go_end0
  exact ⟨rfl, HM.out⟩
end Go.Proofs.YtaodcpdkobhmfaaDoor

namespace Go.Proofs.YtaodcpdkobhmfaaDoor
open Go Go.RowKit

/-- A machine that has told one number more. -/
theorem DMac.told {w w' : World} {B s mb n L : Nat} {m : MS} {gv ov ov' : Value} (h : DMac w B s mb n L m gv ov) (v : Int) (hlt : m.out.length < 200)
    (hown : w'.ownsRow B 2 1 ov' (m.out.length + 1) (outL m.out ++ [.int .i64 v])) (hc : w'.cell? ⟨s, 38, none⟩ = some ov') (hi : ∀ i, i ≠ 38 → w'.cell? ⟨s, i, none⟩ = w.cell? ⟨s, i, none⟩) (hf : ∀ i, w'.frozen? ⟨s, i, none⟩ = false)
    (ho : Off (fun k => k = s ∨ ov.ownBlock = some k) w w') (hk : ∀ k, ov'.ownBlock = some k → ov.ownBlock = some k ∨ w.heap.size ≤ k) : DMac w' B s mb n L { m with out := m.out ++ [v] } gv ov' := by
  have hb : ¬ (mb = s ∨ ov.ownBlock = some mb) := fun e => e.elim (fun e => h.core.ne e.symm) h.om
  have hs0 := h.core.s0
  have hb0 := h.core.b0
  refine ⟨?_, h.B1, h.Bs, h.Bm, ?_, ?_, fun e => ?_, fun e => ?_, ?_⟩
  · exact { s0 := Nat.lt_of_lt_of_le h.core.s0 ho.size, b0 := Nat.lt_of_lt_of_le h.core.b0 ho.size, ne := h.core.ne, L1 := h.core.L1, reg := fun i hi' => (hi i (by omega)).trans (h.core.reg i hi'), mem := (hi _ (by omega)).trans h.core.mem, siz := (hi _ (by omega)).trans h.core.siz, pc := (hi _ (by omega)).trans h.core.pc,
            giv := (hi _ (by omega)).trans h.core.giv, way := (hi _ (by omega)).trans h.core.way, cod := (hi _ (by omega)).trans h.core.cod, out := hc, wds := h.core.wds.block (ho.block mb hb0 hb), fs := hf }
  · exact h.giv.keep ho (fun k e => .inl (e.elim .inl (fun e => .inr (.inr e)))) hk
  · simpa [outL] using hown
  · rcases hk s e with h' | h'
    · exact h.os h'
    · omega
  · rcases hk mb e with h' | h'
    · exact h.om h'
    · omega
  · simp; omega

set_option maxRecDepth 100000 in
set_option maxHeartbeats 2000000 in
theorem out_tell (w : World) (B s mb n L : Nat) (m : MS) (gv ov : Value) (h : DMac w B s mb n L m gv ov) (h1 : m.R 17 = 1) (h2 : m.out.length < 200) :
    Calls Tryd.prog 35 #[.pointer (some ⟨s, 0, none⟩)] w fun e w' => e = .returned (.tuple #[]) ∧ DPost w B s mb n L { m with out := m.out ++ [m.R 10] } ov w' := by
  obtain ⟨i0, hi0, hz0, hz1, hz2⟩ := info_parts info2
  obtain ⟨q, c, hov⟩ := h.ovform
  subst hov
  have r10 := h.core.reg 10 (by omega)
  have r17 := h.core.reg 17 (by omega)
  have c38 := h.core.out
  rw [h1] at r17
  have hs0 := h.core.s0
  have HW : Hid (∀ o, (w.alloc o).ownsRow B 2 1 (.slice q m.out.length c) m.out.length (outL m.out)) := fun o => World.ownsRow.alloc h.own o
  have HN : Hid (∀ (v : Int) (j : Nat) (u : Value), [Value.int .i64 v][j]? = some u → (w.alloc (.cells #[.int .i64 v] 2)).cell? ((⟨w.heap.size, 0, none⟩ : Addr).add j) = some u) := fun v => World.news_of_block (cs := #[.int .i64 v]) (t := 2) (fr := (0, 0)) (heap_alloc_last w _)
  have H1 : Hid (∀ v : Int, ∀ u ∈ [Value.int .i64 v], u.oneCell' = true) := fun v u hu => by simp at hu; subst hu; rfl
  have HSZ : Hid (∀ o, B ≤ (w.alloc o).heap.size) := fun o => by have := h.Bs; simp; omega
  have HC : Hid (∀ (o : Obj) (w1 : World), (w.alloc o).grownBy w1 (Value.slice q m.out.length c).ownBlock → (∀ i, w1.cell? ⟨s, i, none⟩ = w.cell? ⟨s, i, none⟩) ∧ (∀ i, w1.frozen? ⟨s, i, none⟩ = false) ∧ Off (fun k => k = s ∨ (Value.slice q m.out.length c).ownBlock = some k) w w1) := fun o w1 hg => by
    have h0 : Off (fun k => k = s ∨ (Value.slice q m.out.length c).ownBlock = some k) w (w.alloc o) := (Off.refl _ _).alloc _
    have h1 : Off (fun k => (Value.slice q m.out.length c).ownBlock = some k) w w1 := ((Off.refl _ _).alloc o).trans ⟨hg.os, hg.tape, hg.output, hg.size, fun k hk hs' => hg.block k hk (fun e => hs' e.symm)⟩
    refine ⟨fun i => h1.cell hs0 h.os, fun i => (h1.frozen hs0 h.os).trans (h.core.fs i), ?_⟩
    exact h1.mono fun _ _ e => .inr e
  have HM : Hid (∀ (v : Int) (w1 : World) (g cap : Nat), w1.ownsRow B 2 1 (.slice (some ⟨g, 0, none⟩) (m.out.length + 1) cap) (m.out.length + 1) (outL m.out ++ [.int .i64 v]) → ((∀ i, w1.cell? ⟨s, i, none⟩ = w.cell? ⟨s, i, none⟩) ∧ (∀ i, w1.frozen? ⟨s, i, none⟩ = false) ∧ Off (fun k => k = s ∨ (Value.slice q m.out.length c).ownBlock = some k) w w1) →
      ((Value.slice q m.out.length c).ownBlock = some g ∨ g = w.heap.size + 1) → DPost w B s mb n L { m with out := m.out ++ [v] } (.slice q m.out.length c) (w1.setCell ⟨s, 38, none⟩ (.slice (some ⟨g, 0, none⟩) (m.out.length + 1) cap))) := fun v w1 g cap hown hx hat => by
    have hk : ∀ k, (Value.slice (some ⟨g, 0, none⟩) (m.out.length + 1) cap).ownBlock = some k → (Value.slice q m.out.length c).ownBlock = some k ∨ w.heap.size ≤ k := fun k e => by
      have e' : g = k := by simpa [Value.ownBlock] using e
      subst e'
      rcases hat with h' | h'
      · exact .inl h'
      · right; omega
    have hgs : (Value.slice (some ⟨g, 0, none⟩) (m.out.length + 1) cap).ownBlock ≠ some s := fun e => by
      rcases hk s e with h' | h'
      · exact h.os h'
      · omega
    have cs := (hx.1 38).trans c38
    have hof : Off (fun k => k = s ∨ (Value.slice q m.out.length c).ownBlock = some k) w (w1.setCell ⟨s, 38, none⟩ (.slice (some ⟨g, 0, none⟩) (m.out.length + 1) cap)) := hx.2.2.setCell (fun _ => .inl rfl) _
    refine ⟨gv, _, h.told v h2 (ownsRow_setCell_other hown hgs _) (World.cell?_setCell_same _ _ _ cs) (fun i hi => ?_) (fun i => ?_) hof hk, hof.mono fun i _ e => e.elim .inl (fun e => .inr (.inr e)), hk⟩
    · rw [World.cell?_setCell_other _ _ _ _ (by intro h; injection h with h1 h2; exact hi h2.symm)]
      exact hx.1 i
    · rw [World.frozen?_setCell]; exact hx.2.1 i
  clear h h1
  generalize m.R 10 = y at *
  generalize m.out.length = k at *
  go_enter Tryd.func35, Tryd.ntmps35
  go_wp2_with (first
    | (at_builtin; refine wpList_append_lies _ rfl _ _ 23 rfl B 2 i0 (.int .i64 0) 1 8 Tryd.underlying23 hi0 hz0 hz1 hz2 rfl (by decide) (.slice q k c) k _ rfl (HW.out _) ⟨w.heap.size, 0, none⟩ 1 1 [.int .i64 y] rfl rfl (HN.out y) (H1.out y) (by omega) (by unfold maxLen; omega) (by omega) (HSZ.out _) (w.heap.size + 1) (by simp) ?_; intro g cap w1 hown hgrow hat hlt; have HH : Hid ((∀ i, w1.cell? ⟨s, i, none⟩ = w.cell? ⟨s, i, none⟩) ∧ (∀ i, w1.frozen? ⟨s, i, none⟩ = false) ∧ Off (fun j => j = s ∨ (Value.slice q k c).ownBlock = some j) w w1) := HC.out _ w1 hgrow; have HZ : Hid (DPost w B s mb n L { m with out := m.out ++ [y] } (.slice q k c) (w1.setCell ⟨s, 38, none⟩ (.slice (some ⟨g, 0, none⟩) (k + 1) cap))) := HM.out y w1 g cap hown HH.out hat; have cs1 : w1.cell? ⟨s, 38, none⟩ = some (.slice q k c) := (HH.out.1 38).trans c38; have fs1 := HH.out.2.1 38; clear hgrow hat hown hlt)
    | go_in)
  go_end0
  exact ⟨rfl, HZ.out⟩
end Go.Proofs.YtaodcpdkobhmfaaDoor

namespace Go.Proofs.YtaodcpdkobhmfaaDoor
open Go Go.RowKit

set_option maxRecDepth 100000 in
set_option maxHeartbeats 2000000 in
theorem out_give (w : World) (B s mb n L : Nat) (m : MS) (gv ov : Value) (g : Int) (t : List Int) (h : DMac w B s mb n L m gv ov) (h1 : m.R 17 = 2) (h2 : m.G = g :: t) :
    Calls Tryd.prog 35 #[.pointer (some ⟨s, 0, none⟩)] w fun e w' => e = .returned (.tuple #[]) ∧ DPost w B s mb n L { m with G := t, R := upd m.R 10 g } ov w' := by
  have r10 := h.core.reg 10 (by omega)
  have r17 := h.core.reg 17 (by omega)
  have f10 := h.core.fs 10
  rw [h1] at r17
  have hA := h.setReg 10 (by omega) 0
  have hg := hA.giv
  have e1 : ({ m with R := upd m.R 10 0 } : MS).G = g :: t := h2
  rw [e1] at hg
  rcases hg with h' | ⟨gb, o, c, k1, k2, k3, k4, k5, k6, k7, k8⟩
  · cases h'.1
  · have e0 := k8 0 (by simp)
    simp only [Nat.add_zero, List.getElem_cons_zero] at e0
    have et : ∀ i (hi : i < t.length), (w.setCell ⟨s, 10, none⟩ (.int .i64 0)).cell? ⟨gb, o + 1 + i, none⟩ = some (.int .i64 (t[i]'hi)) := fun i hi => by
      have := k8 (i + 1) (by simp; omega)
      rw [show o + (i + 1) = o + 1 + i by omega] at this
      simpa using this
    have c35 := hA.core.giv
    rw [k1] at c35
    simp only [List.length_cons] at c35 k2
    have a10 := hA.core.reg 10 (by omega)
    have b10 := hA.core.fs 10
    have b35 := hA.core.fs 35
    have HK : Hid (∀ o', (t.length = 0 ∨ o' = o + 1) → DPost w B s mb n L { m with G := t, R := upd m.R 10 g } ov (((w.setCell ⟨s, 10, none⟩ (.int .i64 0)).setCell ⟨s, 10, none⟩ (.int .i64 g)).setCell ⟨s, 35, none⟩ (.slice (some ⟨gb, o', none⟩) t.length (c - 1)))) := fun o' ho => by
      have hB := hA.setReg 10 (by omega) g
      have hT := hB.taken t gb o c o' (Nat.lt_of_lt_of_le k4 (off_s 10 (.int .i64 g)).size) k5 k6 k7 k2 k3 (fun i hi => ((off_s 10 (.int .i64 g)).cell (p := ⟨gb, o + 1 + i, none⟩) k4 (Nat.ne_of_lt k5)).trans (et i hi)) ho
      have e2 : upd (upd m.R 10 0) 10 g = upd m.R 10 g := by funext j; simp only [upd]; split <;> rfl
      have e3 : ({ m with R := upd (upd m.R 10 0) 10 g, G := t } : MS) = { m with G := t, R := upd m.R 10 g } := by rw [e2]
      have hT' : DMac _ B s mb n L { m with R := upd (upd m.R 10 0) 10 g, G := t } _ ov := hT
      rw [e3] at hT'
      exact ⟨_, ov, hT', ((off_s _ _).trans ((off_s _ _).trans (off_s _ _))).ws, fun k e => .inl e⟩
    clear h h1 h2 k1 k4 k5 k6 k7 k8 et hA e1
    generalize m.R 10 = y at *
    generalize t.length = k at *
    by_cases hc1 : c = 1
    · obtain rfl : k = 0 := by omega
      subst hc1
      go_enter Tryd.func35, Tryd.ntmps35
      go_wp2
      go_region
      all_goals
        go_wp2
        go_end0
        exact ⟨rfl, (HK.out o (.inl trivial)).drew⟩
    · have hc2 : 2 ≤ c := by omega
      go_enter Tryd.func35, Tryd.ntmps35
      go_wp2
      go_region
      all_goals
        go_wp2
        go_end0
        exact ⟨rfl, (HK.out (o + 1) (.inr rfl)).drew⟩

/-- An Ecall, whatever the machine has. -/
theorem out_any (w : World) (B s mb n L : Nat) (m : MS) (gv ov : Value) (h : DMac w B s mb n L m gv ov) (hc : m.code = 0) :
    Calls Tryd.prog 35 #[.pointer (some ⟨s, 0, none⟩)] w fun e w' => e = .returned (.tuple #[]) ∧ DPost w B s mb n L (callV m) ov w' := by
  unfold callV
  by_cases h1 : m.R 17 = 1
  · rw [if_pos h1]
    by_cases h2 : 200 ≤ m.out.length
    · rw [if_pos h2]; exact out_full w B s mb n L m gv ov h hc h1 h2
    · rw [if_neg h2]; exact out_tell w B s mb n L m gv ov h h1 (by omega)
  · rw [if_neg h1]
    by_cases h2 : m.R 17 = 2
    · rw [if_pos h2]
      cases hG : m.G with
      | nil =>
        have h0 := out_give0 w B s mb n L m gv ov h h2 hG
        rw [hG] at h0
        exact h0
      | cons g t => exact out_give w B s mb n L m gv ov g t h h2 hG
    · rw [if_neg h2]
      by_cases h3 : m.R 17 = 3
      · rw [if_pos h3]
        by_cases h4 : m.R 10 < 1 ∨ 8 < m.R 10
        · rw [if_pos h4]; exact out_noway w B s mb n L m gv ov h hc h3 h4
        · rw [if_neg h4]; exact out_end w B s mb n L m gv ov h h3 (by omega) (by omega)
      · rw [if_neg h3]; exact out_bad w B s mb n L m gv ov h hc h1 h2 h3
end Go.Proofs.YtaodcpdkobhmfaaDoor
