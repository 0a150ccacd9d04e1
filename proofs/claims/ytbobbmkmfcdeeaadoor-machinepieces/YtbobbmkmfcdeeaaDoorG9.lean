/- Package machine's call (an Ecall), walked. -/
import Derived.Test.YtbobbmkmfcdeeaaDoorG8
import Derived.Deep.RegionWith
namespace Go.Proofs.YtbobbmkmfcdeeaaDoor
open Go Go.RowKit

theorem Mac.ovform {w : World} {B s mb L : Nat} {m : MS} {gv ov : Value} (h : Mac w B s mb L m gv ov) : ∃ q c, ov = .slice q m.out.length c := by
  rcases h.own.2 with ⟨h1, h2⟩ | ⟨g, cap, cur, hv, _⟩
  · exact ⟨none, 0, by rw [h1, h2]⟩
  · exact ⟨_, _, hv⟩

/-- What an Ecall does. -/
def callV (m : MS) : MS :=
  if m.R 17 = 1 then (if 200 ≤ m.out.length then { m with way := 7, code := 0 } else { m with out := m.out ++ [m.R 10] })
  else if m.R 17 = 2 then (match m.G with | [] => { m with R := upd m.R 10 0 } | g :: t => { m with G := t, R := upd m.R 10 g })
  else if m.R 17 = 3 then (if m.R 10 < 1 ∨ 8 < m.R 10 then { m with way := 9, code := 0 } else { m with way := m.R 10, code := m.R 11 })
  else { m with way := 9, code := 0 }

abbrev boxP (w : World) (s : Nat) : World := w.alloc (.cells #[.pointer (some ⟨s, 0, none⟩)] 28)

theorem boxP_cell (w : World) (s : Nat) : (boxP w s).cell? ⟨w.heap.size, 0, none⟩ = some (.pointer (some ⟨s, 0, none⟩)) := by
  rw [cell_of_row _ _ _ _ _ _ (heap_alloc_last w _)]; rfl
theorem boxP_below (w : World) (s : Nat) : Below w.heap.size w (boxP w s) := (Below.refl _ _).alloc (Nat.le_refl _) _
theorem boxP_off {S : Nat → Prop} (w : World) (s : Nat) : Off S w (boxP w s) := Off.of_below (boxP_below w s)

/-- A call behind new blocks. -/
theorem Post.grown {w w0 w' : World} {B s mb L : Nat} {m : MS} {ov : Value} (hb : Below w.heap.size w w0) (h : Post w0 B s mb L m ov w') : Post w B s mb L m ov w' :=
  Post.trans (Off.of_below hb) (fun _ e => .inl e) h
theorem Post.drew {w w' : World} {B s mb L : Nat} {m : MS} {ov : Value} (h : Post w B s mb L m ov w') : Post w B s mb L m ov w'.drew := by
  obtain ⟨gv2, ov2, hm, ho, hk⟩ := h
  exact ⟨gv2, ov2, hm.drew, ho.drew, hk⟩

set_option maxRecDepth 100000 in
set_option maxHeartbeats 1000000 in
theorem call_bad (w : World) (B s mb L : Nat) (m : MS) (gv ov : Value) (h : Mac w B s mb L m gv ov) (h1 : m.R 17 ≠ 1) (h2 : m.R 17 ≠ 2) (h3 : m.R 17 ≠ 3) :
    Calls Tryd.prog 45 #[.pointer (some ⟨s, 0, none⟩)] w fun e w' => e = .returned (.tuple #[]) ∧ Post w B s mb L { m with way := 9, code := 0 } ov w' := by
  have HM : Hid (Mac (boxP w s) B s mb L m gv ov) := h.grown (boxP_below w s)
  have r10 := HM.out.core.reg 10 (by omega)
  have r17 := HM.out.core.reg 17 (by omega)
  have cp := boxP_cell w s
  generalize hx : m.R 17 = x at *
  generalize m.R 10 = y at *
  have HX : Hid (m.R 17 = x) := hx
  clear hx
  go_enter Tryd.func45, Tryd.ntmps45
  go_wp2_with (go_at_call 30; refine (stop_any _ s _ _ _ _ HM.out.core.way HM.out.core.cod HM.out.core.fs).mono ?_; rintro e w' ⟨rfl, rfl⟩)
  go_end0
  exact ⟨rfl, Post.grown (boxP_below w s) (Post.stop HM.out 9 0)⟩

set_option maxRecDepth 100000 in
set_option maxHeartbeats 1000000 in
theorem call_full (w : World) (B s mb L : Nat) (m : MS) (gv ov : Value) (h : Mac w B s mb L m gv ov) (h1 : m.R 17 = 1) (h2 : 200 ≤ m.out.length) :
    Calls Tryd.prog 45 #[.pointer (some ⟨s, 0, none⟩)] w fun e w' => e = .returned (.tuple #[]) ∧ Post w B s mb L { m with way := 7, code := 0 } ov w' := by
  have HM : Hid (Mac (boxP w s) B s mb L m gv ov) := h.grown (boxP_below w s)
  obtain ⟨q, c, hov⟩ := h.ovform
  have r10 := HM.out.core.reg 10 (by omega)
  have r17 := HM.out.core.reg 17 (by omega)
  have HO : Hid ((boxP w s).cell? ⟨s, 37, none⟩ = some (.slice q m.out.length c)) := by rw [← hov]; exact HM.out.core.out
  have H2 : Hid (200 ≤ m.out.length) := h2
  have cp := boxP_cell w s
  rw [h1] at r17
  clear h1 h2 h hov
  generalize m.R 10 = y at *
  go_enter Tryd.func45, Tryd.ntmps45
  go_wp2_with (go_at_call 65; refine (tell_full _ w.heap.size s m.out.length c q _ _ _ cp HO.out H2.out (by have := HM.out.o2; omega) HM.out.core.way HM.out.core.cod HM.out.core.fs).mono ?_; rintro e w' ⟨rfl, rfl⟩)
  go_end0
  exact ⟨rfl, Post.grown (boxP_below w s) (Post.stop HM.out 7 0)⟩

/-- A machine that has told one number more. -/
theorem Mac.told {w w' : World} {B s mb L : Nat} {m : MS} {gv ov ov' : Value} (h : Mac w B s mb L m gv ov) (v : Int) (hlt : m.out.length < 200)
    (hown : w'.ownsRow B 2 1 ov' (m.out.length + 1) (outL m.out ++ [.int .i64 v])) (hc : w'.cell? ⟨s, 37, none⟩ = some ov') (hi : ∀ i, i ≠ 37 → w'.cell? ⟨s, i, none⟩ = w.cell? ⟨s, i, none⟩) (hf : ∀ i, w'.frozen? ⟨s, i, none⟩ = false)
    (ho : Off (fun k => k = s ∨ ov.ownBlock = some k) w w') (hk : ∀ k, ov'.ownBlock = some k → ov.ownBlock = some k ∨ w.heap.size ≤ k) : Mac w' B s mb L { m with out := m.out ++ [v] } gv ov' := by
  have hb : ¬ (mb = s ∨ ov.ownBlock = some mb) := fun e => e.elim (fun e => h.core.ne e.symm) h.om
  have b : ∀ i, w'.cell? ⟨mb, i, none⟩ = w.cell? ⟨mb, i, none⟩ := fun i => ho.cell h.core.b0 hb
  have hs0 := h.core.s0
  have hb0 := h.core.b0
  refine ⟨?_, h.B1, h.Bs, h.Bm, ?_, ?_, fun e => ?_, fun e => ?_, ?_⟩
  · exact { s0 := Nat.lt_of_lt_of_le h.core.s0 ho.size, b0 := Nat.lt_of_lt_of_le h.core.b0 ho.size, ne := h.core.ne, L1 := h.core.L1, reg := fun i hi' => (hi i (by omega)).trans (h.core.reg i hi'), mem := (hi _ (by omega)).trans h.core.mem, pc := (hi _ (by omega)).trans h.core.pc,
            giv := (hi _ (by omega)).trans h.core.giv, way := (hi _ (by omega)).trans h.core.way, cod := (hi _ (by omega)).trans h.core.cod, out := hc, byt := fun i hi' => (b i).trans (h.core.byt i hi'), fs := hf, fb := fun i => (ho.frozen h.core.b0 hb).trans (h.core.fb i), M0 := h.core.M0 }
  · exact h.giv.keep ho (fun k e => .inl (e.elim .inl (fun e => .inr (.inr e)))) hk
  · simpa [outL] using hown
  · rcases hk s e with h' | h'
    · exact h.os h'
    · omega
  · rcases hk mb e with h' | h'
    · exact h.om h'
    · omega
  · simp; omega

set_option maxRecDepth 100000 in
set_option maxHeartbeats 1000000 in
theorem call_tell (w : World) (B s mb L : Nat) (m : MS) (gv ov : Value) (h : Mac w B s mb L m gv ov) (h1 : m.R 17 = 1) (h2 : m.out.length < 200) :
    Calls Tryd.prog 45 #[.pointer (some ⟨s, 0, none⟩)] w fun e w' => e = .returned (.tuple #[]) ∧ Post w B s mb L { m with out := m.out ++ [m.R 10] } ov w' := by
  have HM : Hid (Mac (boxP w s) B s mb L m gv ov) := h.grown (boxP_below w s)
  obtain ⟨q, c, hov⟩ := h.ovform
  have r10 := HM.out.core.reg 10 (by omega)
  have r17 := HM.out.core.reg 17 (by omega)
  have H2 : Hid (m.out.length < 200) := h2
  have cp := boxP_cell w s
  rw [h1] at r17
  have hs := h.core.s0
  have HQ : Hid (ov.ownBlock ≠ some w.heap.size) := fun e => by have := (h.ob e).2; omega
  have HB : Hid (B ≤ (boxP w s).heap.size) := by show _ ≤ _; have := h.Bs; simp; omega
  have HL : Hid (s < (boxP w s).heap.size) := by show _ < _; simp; omega
  clear h1 h2 h
  have HOV : Hid (ov = .slice q m.out.length c) := hov
  have HT : Hid (∀ v, Calls Tryd.prog 65 #[.int .i64 v, .pointer (some ⟨w.heap.size, 0, none⟩)] (boxP w s) fun e w' => e = .returned (.tuple #[]) ∧ Post w B s mb L { m with out := m.out ++ [v] } ov w') := fun v => by
    subst hov
    refine (tell_more (boxP w s) B w.heap.size s m.out.length c q v (outL m.out) cp HM.out.core.out H2.out HM.out.own HL.out (by simp) HM.out.os HQ.out HB.out HM.out.core.fs).mono ?_
    rintro e w' ⟨rfl, g, cap, k1, k2, k3, k4, k5, k6, k7⟩
    refine ⟨rfl, Post.grown (boxP_below w s) ⟨gv, _, HM.out.told v H2.out k1 k2 k3 k4 k5 ?_, k5.mono fun i _ e => e.elim .inl (fun e => .inr (.inr e)), ?_⟩⟩
    · intro k e
      have e' : g = k := by simpa [Value.ownBlock] using e
      subst e'; exact k6
    · intro k e
      have e' : g = k := by simpa [Value.ownBlock] using e
      subst e'; exact k6
  clear hov
  generalize m.R 10 = y at *
  go_enter Tryd.func45, Tryd.ntmps45
  go_wp2_with (go_at_call 65; refine (HT.out _).mono ?_; rintro e w' ⟨rfl, hp⟩)
  go_end0
  exact ⟨rfl, hp⟩

set_option maxRecDepth 100000 in
set_option maxHeartbeats 1000000 in
theorem call_noway (w : World) (B s mb L : Nat) (m : MS) (gv ov : Value) (h : Mac w B s mb L m gv ov) (h1 : m.R 17 = 3) (h2 : m.R 10 < 1 ∨ 8 < m.R 10) :
    Calls Tryd.prog 45 #[.pointer (some ⟨s, 0, none⟩)] w fun e w' => e = .returned (.tuple #[]) ∧ Post w B s mb L { m with way := 9, code := 0 } ov w' := by
  have HM : Hid (Mac (boxP w s) B s mb L m gv ov) := h.grown (boxP_below w s)
  have r10 := HM.out.core.reg 10 (by omega)
  have r17 := HM.out.core.reg 17 (by omega)
  have cp := boxP_cell w s
  rw [h1] at r17
  clear h1 h
  generalize m.R 10 = y at *
  by_cases h3 : y < 1
  · go_enter Tryd.func45, Tryd.ntmps45
    go_wp2_with (go_at_call 30; refine (stop_any _ s _ _ _ _ HM.out.core.way HM.out.core.cod HM.out.core.fs).mono ?_; rintro e w' ⟨rfl, rfl⟩)
    go_end0
    exact ⟨rfl, Post.grown (boxP_below w s) (Post.stop HM.out 9 0)⟩
  · have h4 : 8 < y := by omega
    go_enter Tryd.func45, Tryd.ntmps45
    go_wp2_with (go_at_call 30; refine (stop_any _ s _ _ _ _ HM.out.core.way HM.out.core.cod HM.out.core.fs).mono ?_; rintro e w' ⟨rfl, rfl⟩)
    go_end0
    exact ⟨rfl, Post.grown (boxP_below w s) (Post.stop HM.out 9 0)⟩
end Go.Proofs.YtbobbmkmfcdeeaaDoor
