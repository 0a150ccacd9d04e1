/- The document's Step: what stands behind the calls of an instruction; forms by kind. -/
import Derived.Test.YtaodcpdkobhmfaaDoorSA
namespace Go.Proofs.YtaodcpdkobhmfaaDoor
open Go Go.RowKit

section
variable {w w3 w4 : World} {B s mb n L g : Nat} {m : MS} {gv ov : Value} {o d a b k : Int}

theorem At.drewN (h : At w w3 B s mb n L g m gv ov o d a b k) (q : Nat) : At w (w3.drewN q) B s mb n L g m gv ov o d a b k :=
  ⟨h.mac.drewN q, ⟨h.off.os, h.off.tape, h.off.output, h.off.size, h.off.block⟩, h.g0, h.c0, h.c1, h.c2, h.c3, h.c4⟩

theorem At.fault (h : At w w3 B s mb n L g m gv ov o d a b k) (hc : m.code = 0) (q : Nat) : DPost w B s mb n L { m with way := 9, code := 0 } ov ((w3.drewN q).setCell ⟨s, 36, none⟩ (.int .i64 9)) :=
  DPost.trans (Off.of_below h.off) (fun _ e => .inl e) (DPost.after q (DPost.way (h.mac.drewN q) hc 9))

theorem off_of_grown {w w' : World} {mb : Nat} (h : w.grownBy w' (some mb)) : Off (· = mb) w w' := ⟨h.os, h.tape, h.output, h.size, fun k hk hn => h.block k hk (by simpa using hn)⟩

/-- The instruction's own cells lie in no block that a machine turns. -/
theorem At.cell1 (h : At w w3 B s mb n L g m gv ov o d a b k) (hw : DMac w B s mb n L m gv ov) {q : Nat} (ho : Off (Ws s mb ov) (w3.drewN q) w4) : w4.cell? ⟨g, 1, none⟩ = some (.int .i64 d) := by
  have hg := h.g0
  have hs := hw.core.s0
  have hb := hw.core.b0
  have hl : g < w3.heap.size := block_lt_of_cell h.c1
  rw [ho.cell (p := ⟨g, 1, none⟩) hl ?_]
  · exact h.c1
  · rintro (e | e | e)
    · have e' : g = s := e; omega
    · have e' : g = mb := e; omega
    · have := (hw.ob e).2; have e' : g < w.heap.size := this; omega

theorem At.stored (h : At w w3 B s mb n L g m gv ov o d a b k) (hw : DMac w B s mb n L m gv ov) {q : Nat} {M : Nat → Int} (hd : Doc w4 s mb (n + 1) L { m with M := M } gv ov) (hg : (w3.drewN q).grownBy w4 (some mb)) :
    w4.cell? ⟨g, 1, none⟩ = some (.int .i64 d) ∧ w4.cell? ⟨s, 34, none⟩ = some (.int .i64 m.pc) ∧ w4.frozen? ⟨s, 34, none⟩ = false ∧ w4.cell? ⟨s, 36, none⟩ = some (.int .i64 m.way) ∧
      ∀ y, DPost w B s mb (n + 1) L { m with M := M, pc := y } ov (w4.setCell ⟨s, 34, none⟩ (.int .i64 y)) := by
  have ho := off_of_grown hg
  have hm : DMac w4 B s mb (n + 1) L { m with M := M } gv ov := ((h.mac.drewN q).more (Nat.le_succ n)).inM ho hd rfl rfl
  refine ⟨h.cell1 hw (ho.wm), hd.pc, hd.fs 34, hd.way, fun y => ?_⟩
  refine DPost.trans (w1 := w4) (ov1 := ov) ?_ (fun _ e => .inl e) (DPost.of (hm.setPc y) ((off_s _ _).ws))
  exact ((Off.of_below (S := Ws s mb ov) h.off).drewN q).trans' (ho.wm (ov := ov) (s := s)) (fun _ _ e => e)

theorem At.called (h : At w w3 B s mb n L g m gv ov o d a b k) (hw : DMac w B s mb n L m gv ov) {q : Nat} {m' : MS} (hp : DPost (w3.drewN q) B s mb n L m' ov w4) :
    w4.cell? ⟨g, 1, none⟩ = some (.int .i64 d) ∧ w4.cell? ⟨s, 34, none⟩ = some (.int .i64 m'.pc) ∧ w4.frozen? ⟨s, 34, none⟩ = false ∧ w4.cell? ⟨s, 36, none⟩ = some (.int .i64 m'.way) ∧
      DPost w B s mb n L m' ov w4 ∧ ∀ y, DPost w B s mb n L { m' with pc := y } ov (w4.setCell ⟨s, 34, none⟩ (.int .i64 y)) := by
  obtain ⟨gv', ov', hm, ho, hk⟩ := hp
  have hb : Off (Ws s mb ov) w (w3.drewN q) := (Off.of_below h.off).drewN q
  have hP : DPost w B s mb n L m' ov w4 := DPost.trans hb (fun _ e => .inl e) ⟨gv', ov', hm, ho, hk⟩
  refine ⟨h.cell1 hw ho, hm.core.pc, hm.core.fs 34, hm.core.way, hP, fun y => ?_⟩
  obtain ⟨_, _, _, ho2, _⟩ := hP
  refine ⟨gv', ov', hm.setPc y, ho2.trans' (off_s 34 (.int .i64 y)) (fun _ _ e => .inl e), fun k e => ?_⟩
  rcases hk k e with h1 | h1
  · exact .inl h1
  · right
    have := h.off.size
    have h2 : w3.heap.size ≤ k := h1
    omega
end

theorem formOf_r (o : Int) (h1 : 1 ≤ o) (h2 : o ≤ 13) (w : World) : Calls Tryd.prog 33 #[.int .i64 o] w fun e w' => (∃ mm hh sx, e = .returned (.tuple #[formV 82 51 mm hh sx, .bool true])) ∧ Below w.heap.size w w' := by
  have h : o = 1 ∨ o = 2 ∨ o = 3 ∨ o = 4 ∨ o = 5 ∨ o = 6 ∨ o = 7 ∨ o = 8 ∨ o = 9 ∨ o = 10 ∨ o = 11 ∨ o = 12 ∨ o = 13 := by omega
  rcases h with rfl | rfl | rfl | rfl | rfl | rfl | rfl | rfl | rfl | rfl | rfl | rfl | rfl
  · exact (formOf_1 w).mono fun e w' ⟨⟨s, he⟩, hb⟩ => ⟨⟨_, _, s, he⟩, hb⟩
  · exact (formOf_2 w).mono fun e w' ⟨⟨s, he⟩, hb⟩ => ⟨⟨_, _, s, he⟩, hb⟩
  · exact (formOf_3 w).mono fun e w' ⟨⟨s, he⟩, hb⟩ => ⟨⟨_, _, s, he⟩, hb⟩
  · exact (formOf_4 w).mono fun e w' ⟨⟨s, he⟩, hb⟩ => ⟨⟨_, _, s, he⟩, hb⟩
  · exact (formOf_5 w).mono fun e w' ⟨⟨s, he⟩, hb⟩ => ⟨⟨_, _, s, he⟩, hb⟩
  · exact (formOf_6 w).mono fun e w' ⟨⟨s, he⟩, hb⟩ => ⟨⟨_, _, s, he⟩, hb⟩
  · exact (formOf_7 w).mono fun e w' ⟨⟨s, he⟩, hb⟩ => ⟨⟨_, _, s, he⟩, hb⟩
  · exact (formOf_8 w).mono fun e w' ⟨⟨s, he⟩, hb⟩ => ⟨⟨_, _, s, he⟩, hb⟩
  · exact (formOf_9 w).mono fun e w' ⟨⟨s, he⟩, hb⟩ => ⟨⟨_, _, s, he⟩, hb⟩
  · exact (formOf_10 w).mono fun e w' ⟨⟨s, he⟩, hb⟩ => ⟨⟨_, _, s, he⟩, hb⟩
  · exact (formOf_11 w).mono fun e w' ⟨⟨s, he⟩, hb⟩ => ⟨⟨_, _, s, he⟩, hb⟩
  · exact (formOf_12 w).mono fun e w' ⟨⟨s, he⟩, hb⟩ => ⟨⟨_, _, s, he⟩, hb⟩
  · exact (formOf_13 w).mono fun e w' ⟨⟨s, he⟩, hb⟩ => ⟨⟨_, _, s, he⟩, hb⟩

theorem formOf_i (o : Int) (h1 : 14 ≤ o) (h2 : o ≤ 21) (w : World) : Calls Tryd.prog 33 #[.int .i64 o] w fun e w' => (∃ kc mm hh sx, kc ≠ 82 ∧ e = .returned (.tuple #[formV kc 19 mm hh sx, .bool true])) ∧ Below w.heap.size w w' := by
  have h : o = 14 ∨ o = 15 ∨ o = 16 ∨ o = 17 ∨ o = 18 ∨ o = 19 ∨ o = 20 ∨ o = 21 := by omega
  rcases h with rfl | rfl | rfl | rfl | rfl | rfl | rfl | rfl
  · exact (formOf_14 w).mono fun e w' ⟨⟨s, he⟩, hb⟩ => ⟨⟨_, _, _, s, by omega, he⟩, hb⟩
  · exact (formOf_15 w).mono fun e w' ⟨⟨s, he⟩, hb⟩ => ⟨⟨_, _, _, s, by omega, he⟩, hb⟩
  · exact (formOf_16 w).mono fun e w' ⟨⟨s, he⟩, hb⟩ => ⟨⟨_, _, _, s, by omega, he⟩, hb⟩
  · exact (formOf_17 w).mono fun e w' ⟨⟨s, he⟩, hb⟩ => ⟨⟨_, _, _, s, by omega, he⟩, hb⟩
  · exact (formOf_18 w).mono fun e w' ⟨⟨s, he⟩, hb⟩ => ⟨⟨_, _, _, s, by omega, he⟩, hb⟩
  · exact (formOf_19 w).mono fun e w' ⟨⟨s, he⟩, hb⟩ => ⟨⟨_, _, _, s, by omega, he⟩, hb⟩
  · exact (formOf_20 w).mono fun e w' ⟨⟨s, he⟩, hb⟩ => ⟨⟨_, _, _, s, by omega, he⟩, hb⟩
  · exact (formOf_21 w).mono fun e w' ⟨⟨s, he⟩, hb⟩ => ⟨⟨_, _, _, s, by omega, he⟩, hb⟩
end Go.Proofs.YtaodcpdkobhmfaaDoor
