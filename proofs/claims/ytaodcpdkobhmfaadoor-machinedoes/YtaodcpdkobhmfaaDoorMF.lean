/- A machine with all that it holds; how it stays one. Package machine's call (an Ecall), walked. -/
import Derived.Test.YtaodcpdkobhmfaaDoorME
import Derived.Deep.RegionWith
namespace Go.Proofs.YtaodcpdkobhmfaaDoor
open Go Go.RowKit

def upd (f : Nat → Int) (i : Nat) (v : Int) : Nat → Int := fun j => if j = i then v else f j

/-- The numbers that are given yet. -/
def Giv (w : World) (s mb : Nat) (gv ov : Value) (G : List Int) : Prop :=
  (G = [] ∧ ∃ p c, gv = .slice p 0 c) ∨ ∃ gb o c, gv = .slice (some ⟨gb, o, none⟩) G.length c ∧ G.length ≤ c ∧ c ≤ 9223372036854775807 ∧ gb < w.heap.size ∧ gb < s ∧ gb ≠ mb ∧ ov.ownBlock ≠ some gb ∧ ∀ i (hi : i < G.length), w.cell? ⟨gb, o + i, none⟩ = some (.int .i64 (G[i]'hi))

abbrev outL (l : List Int) : List Value := l.map fun x => Value.int .i64 x

structure Mac (w : World) (B s mb L : Nat) (m : MS) (gv ov : Value) : Prop where
  core : Core w s mb L m gv ov
  B1 : 1 < B
  Bs : B ≤ s
  Bm : B ≤ mb
  giv : Giv w s mb gv ov m.G
  own : w.ownsRow B 2 1 ov m.out.length (outL m.out)
  os : ov.ownBlock ≠ some s
  om : ov.ownBlock ≠ some mb
  o2 : m.out.length ≤ 200
  gB : ∀ k, gv.ownBlock = some k → B ≤ k

/-- The blocks that a machine may turn. -/
def Ws (s mb : Nat) (ov : Value) (k : Nat) : Prop := k = s ∨ k = mb ∨ ov.ownBlock = some k

/-- Behind a call: the machine is there, and nothing else has turned. -/
def Post (w : World) (B s mb L : Nat) (m : MS) (ov : Value) (w' : World) : Prop :=
  ∃ gv' ov', Mac w' B s mb L m gv' ov' ∧ Off (Ws s mb ov) w w' ∧ ∀ k, ov'.ownBlock = some k → ov.ownBlock = some k ∨ w.heap.size ≤ k

section
variable {w w' : World} {B s mb L : Nat} {m : MS} {gv ov : Value}

theorem ownsRow_block {base e size n : Nat} {v : Value} {xs : List Value} (h : w.ownsRow base e size v n xs) (hb : ∀ k, v.ownBlock = some k → w'.heap[k]? = w.heap[k]?) : w'.ownsRow base e size v n xs := by
  refine ⟨h.1, ?_⟩
  rcases h.2 with h2 | ⟨g, cap, cur, hv, hg, hh, r⟩
  · exact .inl h2
  · exact .inr ⟨g, cap, cur, hv, hg, by rw [hb g (by rw [hv]; rfl)]; exact hh, r⟩

theorem Mac.ob (h : Mac w B s mb L m gv ov) {k : Nat} (hk : ov.ownBlock = some k) : B ≤ k ∧ k < w.heap.size := h.own.lt k hk

theorem Giv.keep {S : Nat → Prop} {G : List Int} (h : Giv w s mb gv ov G) (ho : Off S w w') (hS : ∀ k, S k → Ws s mb ov k ∨ w.heap.size ≤ k) {ov' : Value} (hov : ∀ k, ov'.ownBlock = some k → ov.ownBlock = some k ∨ w.heap.size ≤ k) : Giv w' s mb gv ov' G := by
  rcases h with h | ⟨gb, o, c, h1, h2, h3, h4, h5, h6, h7, h8⟩
  · exact .inl h
  · refine .inr ⟨gb, o, c, h1, h2, h3, Nat.lt_of_lt_of_le h4 ho.size, h5, h6, fun e => ?_, fun i hi => ?_⟩
    · rcases hov gb e with h | h
      · exact h7 h
      · omega
    · rw [ho.cell (p := ⟨gb, o + i, none⟩) h4 (fun e => ?_)]
      · exact h8 i hi
      · rcases hS gb e with (h | h | h) | h
        · omega
        · exact h6 h
        · exact h7 h
        · omega

/-- Nothing of it has turned. -/
theorem Mac.off (h : Mac w B s mb L m gv ov) {S : Nat → Prop} (ho : Off S w w') (hs : ∀ k, k < w.heap.size → S k → k ≠ s ∧ k ≠ mb ∧ ov.ownBlock ≠ some k ∧ gv.ownBlock ≠ some k) : Mac w' B s mb L m gv ov := by
  have hS : ¬ S s := fun e => (hs s h.core.s0 e).1 rfl
  have hM : ¬ S mb := fun e => (hs mb h.core.b0 e).2.1 rfl
  refine ⟨h.core.off ho hS hM, h.B1, h.Bs, h.Bm, ?_, ownsRow_block h.own fun k hk => ?_, h.os, h.om, h.o2, h.gB⟩
  · rcases h.giv with h' | ⟨gb, o, c, h1, h2, h3, h4, h5, h6, h7, h8⟩
    · exact .inl h'
    · refine .inr ⟨gb, o, c, h1, h2, h3, Nat.lt_of_lt_of_le h4 ho.size, h5, h6, h7, fun i hi => ?_⟩
      rw [ho.cell (p := ⟨gb, o + i, none⟩) h4 (fun e => (hs gb h4 e).2.2.2 (by rw [h1]; rfl))]
      exact h8 i hi
  · obtain ⟨_, b⟩ := h.ob hk
    exact ho.block k b (fun e => (hs k b e).2.2.1 hk)

/-- Blocks behind the struct have turned, and none of it. -/
theorem Mac.high (h : Mac w B s mb L m gv ov) {S : Nat → Prop} (ho : Off S w w') (hs : ∀ k, k < w.heap.size → S k → s < k ∧ k ≠ mb ∧ ov.ownBlock ≠ some k) : Mac w' B s mb L m gv ov := by
  have hS : ¬ S s := fun e => Nat.lt_irrefl _ (hs s h.core.s0 e).1
  have hM : ¬ S mb := fun e => (hs mb h.core.b0 e).2.1 rfl
  refine ⟨h.core.off ho hS hM, h.B1, h.Bs, h.Bm, ?_, ownsRow_block h.own fun k hk => ?_, h.os, h.om, h.o2, h.gB⟩
  · rcases h.giv with h' | ⟨gb, o, c, h1, h2, h3, h4, h5, h6, h7, h8⟩
    · exact .inl h'
    · refine .inr ⟨gb, o, c, h1, h2, h3, Nat.lt_of_lt_of_le h4 ho.size, h5, h6, h7, fun i hi => ?_⟩
      rw [ho.cell (p := ⟨gb, o + i, none⟩) h4 (fun e => by have := (hs gb h4 e).1; omega)]
      exact h8 i hi
  · obtain ⟨_, b⟩ := h.ob hk
    exact ho.block k b (fun e => (hs k b e).2.2 hk)

/-- New blocks alone. -/
theorem Mac.grown (h : Mac w B s mb L m gv ov) (hb : Below w.heap.size w w') : Mac w' B s mb L m gv ov := h.off (S := fun _ => False) (Off.of_below hb) (fun _ _ h => h.elim)

/-- The struct alone has turned. -/
theorem Mac.inS (h : Mac w B s mb L m gv ov) (ho : Off (· = s) w w') {m' : MS} (hc : Core w' s mb L m' gv ov) (hG : m'.G = m.G) (hO : m'.out = m.out) : Mac w' B s mb L m' gv ov := by
  refine ⟨hc, h.B1, h.Bs, h.Bm, ?_, ?_, h.os, h.om, by rw [hO]; exact h.o2, h.gB⟩
  · rw [hG]; exact h.giv.keep ho (fun k e => .inl (.inl e)) (fun k e => .inl e)
  · rw [hO]; exact ownsRow_block h.own fun k hk => ho.block k (h.ob hk).2 (fun e => h.os (e ▸ hk))

/-- The bytes alone have turned. -/
theorem Mac.inM (h : Mac w B s mb L m gv ov) (ho : Off (· = mb) w w') {m' : MS} (hc : Core w' s mb L m' gv ov) (hG : m'.G = m.G) (hO : m'.out = m.out) : Mac w' B s mb L m' gv ov := by
  refine ⟨hc, h.B1, h.Bs, h.Bm, ?_, ?_, h.os, h.om, by rw [hO]; exact h.o2, h.gB⟩
  · rw [hG]; exact h.giv.keep ho (fun k e => .inl (.inr (.inl e))) (fun k e => .inl e)
  · rw [hO]; exact ownsRow_block h.own fun k hk => ho.block k (h.ob hk).2 (fun e => h.om (e ▸ hk))

theorem off_s (a : Nat) (v : Value) : Off (· = s) w (w.setCell ⟨s, a, none⟩ v) := (Off.refl (· = s) w).setCell (p := ⟨s, a, none⟩) (fun _ => rfl) v

/-- One cell of the struct. -/
theorem Core.setReg (h : Core w s mb L m gv ov) (d : Nat) (hd : d < 32) (v : Int) : Core (w.setCell ⟨s, d, none⟩ (.int .i64 v)) s mb L { m with R := upd m.R d v } gv ov := by
  have c : ∀ i, i ≠ d → (w.setCell ⟨s, d, none⟩ (.int .i64 v)).cell? ⟨s, i, none⟩ = w.cell? ⟨s, i, none⟩ := fun i hi => World.cell?_setCell_other _ _ _ _ (by intro h; injection h with h1 h2; exact hi h2.symm)
  have b : ∀ i, (w.setCell ⟨s, d, none⟩ (.int .i64 v)).cell? ⟨mb, i, none⟩ = w.cell? ⟨mb, i, none⟩ := fun i => World.cell?_setCell_other _ _ _ _ (by intro h'; injection h' with h1 h2; exact h.ne h1)
  have hr : ∀ i, i < 32 → (w.setCell ⟨s, d, none⟩ (.int .i64 v)).cell? ⟨s, i, none⟩ = some (.int .i64 (upd m.R d v i)) := fun i hi => by
    unfold upd
    by_cases e : i = d
    · subst e; rw [if_pos rfl]; exact World.cell?_setCell_same _ _ _ (h.reg i hi)
    · rw [if_neg e]; exact (c i e).trans (h.reg i hi)
  exact { s0 := by simpa [World.setCell] using h.s0, b0 := by simpa [World.setCell] using h.b0, ne := h.ne, L1 := h.L1, reg := hr, mem := (c _ (by omega)).trans h.mem, pc := (c _ (by omega)).trans h.pc, giv := (c _ (by omega)).trans h.giv,
          way := (c _ (by omega)).trans h.way, cod := (c _ (by omega)).trans h.cod, out := (c _ (by omega)).trans h.out, byt := fun i hi => (b i).trans (h.byt i hi), fs := fun i => by rw [World.frozen?_setCell]; exact h.fs i, fb := fun i => by rw [World.frozen?_setCell]; exact h.fb i, M0 := h.M0 }

theorem Core.setPc (h : Core w s mb L m gv ov) (v : Int) : Core (w.setCell ⟨s, 33, none⟩ (.int .i64 v)) s mb L { m with pc := v } gv ov := by
  have c : ∀ i, i ≠ 33 → (w.setCell ⟨s, 33, none⟩ (.int .i64 v)).cell? ⟨s, i, none⟩ = w.cell? ⟨s, i, none⟩ := fun i hi => World.cell?_setCell_other _ _ _ _ (by intro h; injection h with h1 h2; exact hi h2.symm)
  have b : ∀ i, (w.setCell ⟨s, 33, none⟩ (.int .i64 v)).cell? ⟨mb, i, none⟩ = w.cell? ⟨mb, i, none⟩ := fun i => World.cell?_setCell_other _ _ _ _ (by intro h'; injection h' with h1 h2; exact h.ne h1)
  exact { s0 := by simpa [World.setCell] using h.s0, b0 := by simpa [World.setCell] using h.b0, ne := h.ne, L1 := h.L1, reg := fun i hi => (c i (by omega)).trans (h.reg i hi), mem := (c _ (by omega)).trans h.mem, pc := World.cell?_setCell_same _ _ _ h.pc, giv := (c _ (by omega)).trans h.giv,
          way := (c _ (by omega)).trans h.way, cod := (c _ (by omega)).trans h.cod, out := (c _ (by omega)).trans h.out, byt := fun i hi => (b i).trans (h.byt i hi), fs := fun i => by rw [World.frozen?_setCell]; exact h.fs i, fb := fun i => by rw [World.frozen?_setCell]; exact h.fb i, M0 := h.M0 }

theorem Core.setWay (h : Core w s mb L m gv ov) (v : Int) : Core (w.setCell ⟨s, 35, none⟩ (.int .i64 v)) s mb L { m with way := v } gv ov := by
  have c : ∀ i, i ≠ 35 → (w.setCell ⟨s, 35, none⟩ (.int .i64 v)).cell? ⟨s, i, none⟩ = w.cell? ⟨s, i, none⟩ := fun i hi => World.cell?_setCell_other _ _ _ _ (by intro h; injection h with h1 h2; exact hi h2.symm)
  have b : ∀ i, (w.setCell ⟨s, 35, none⟩ (.int .i64 v)).cell? ⟨mb, i, none⟩ = w.cell? ⟨mb, i, none⟩ := fun i => World.cell?_setCell_other _ _ _ _ (by intro h'; injection h' with h1 h2; exact h.ne h1)
  exact { s0 := by simpa [World.setCell] using h.s0, b0 := by simpa [World.setCell] using h.b0, ne := h.ne, L1 := h.L1, reg := fun i hi => (c i (by omega)).trans (h.reg i hi), mem := (c _ (by omega)).trans h.mem, pc := (c _ (by omega)).trans h.pc, giv := (c _ (by omega)).trans h.giv,
          way := World.cell?_setCell_same _ _ _ h.way, cod := (c _ (by omega)).trans h.cod, out := (c _ (by omega)).trans h.out, byt := fun i hi => (b i).trans (h.byt i hi), fs := fun i => by rw [World.frozen?_setCell]; exact h.fs i, fb := fun i => by rw [World.frozen?_setCell]; exact h.fb i, M0 := h.M0 }

theorem Core.setCode (h : Core w s mb L m gv ov) (v : Int) : Core (w.setCell ⟨s, 36, none⟩ (.int .i64 v)) s mb L { m with code := v } gv ov := by
  have c : ∀ i, i ≠ 36 → (w.setCell ⟨s, 36, none⟩ (.int .i64 v)).cell? ⟨s, i, none⟩ = w.cell? ⟨s, i, none⟩ := fun i hi => World.cell?_setCell_other _ _ _ _ (by intro h; injection h with h1 h2; exact hi h2.symm)
  have b : ∀ i, (w.setCell ⟨s, 36, none⟩ (.int .i64 v)).cell? ⟨mb, i, none⟩ = w.cell? ⟨mb, i, none⟩ := fun i => World.cell?_setCell_other _ _ _ _ (by intro h'; injection h' with h1 h2; exact h.ne h1)
  exact { s0 := by simpa [World.setCell] using h.s0, b0 := by simpa [World.setCell] using h.b0, ne := h.ne, L1 := h.L1, reg := fun i hi => (c i (by omega)).trans (h.reg i hi), mem := (c _ (by omega)).trans h.mem, pc := (c _ (by omega)).trans h.pc, giv := (c _ (by omega)).trans h.giv,
          way := (c _ (by omega)).trans h.way, cod := World.cell?_setCell_same _ _ _ h.cod, out := (c _ (by omega)).trans h.out, byt := fun i hi => (b i).trans (h.byt i hi), fs := fun i => by rw [World.frozen?_setCell]; exact h.fs i, fb := fun i => by rw [World.frozen?_setCell]; exact h.fb i, M0 := h.M0 }

theorem Core.setGiv (h : Core w s mb L m gv ov) (G : List Int) (v : Value) : Core (w.setCell ⟨s, 34, none⟩ v) s mb L { m with G := G } v ov := by
  have c : ∀ i, i ≠ 34 → (w.setCell ⟨s, 34, none⟩ v).cell? ⟨s, i, none⟩ = w.cell? ⟨s, i, none⟩ := fun i hi => World.cell?_setCell_other _ _ _ _ (by intro h; injection h with h1 h2; exact hi h2.symm)
  have b : ∀ i, (w.setCell ⟨s, 34, none⟩ v).cell? ⟨mb, i, none⟩ = w.cell? ⟨mb, i, none⟩ := fun i => World.cell?_setCell_other _ _ _ _ (by intro h'; injection h' with h1 h2; exact h.ne h1)
  exact { s0 := by simpa [World.setCell] using h.s0, b0 := by simpa [World.setCell] using h.b0, ne := h.ne, L1 := h.L1, reg := fun i hi => (c i (by omega)).trans (h.reg i hi), mem := (c _ (by omega)).trans h.mem, pc := (c _ (by omega)).trans h.pc, giv := World.cell?_setCell_same _ _ _ h.giv,
          way := (c _ (by omega)).trans h.way, cod := (c _ (by omega)).trans h.cod, out := (c _ (by omega)).trans h.out, byt := fun i hi => (b i).trans (h.byt i hi), fs := fun i => by rw [World.frozen?_setCell]; exact h.fs i, fb := fun i => by rw [World.frozen?_setCell]; exact h.fb i, M0 := h.M0 }

theorem Core.drew (h : Core w s mb L m gv ov) : Core w.drew s mb L m gv ov := h.off (S := fun _ => False) (Off.refl _ _).drew (fun h => h) (fun h => h)
theorem Mac.drew (h : Mac w B s mb L m gv ov) : Mac w.drew B s mb L m gv ov := h.off (S := fun _ => False) (Off.refl _ _).drew (fun _ _ h => h.elim)

theorem Mac.setReg (h : Mac w B s mb L m gv ov) (d : Nat) (hd : d < 32) (v : Int) : Mac (w.setCell ⟨s, d, none⟩ (.int .i64 v)) B s mb L { m with R := upd m.R d v } gv ov := h.inS (off_s _ _) (h.core.setReg d hd v) rfl rfl
theorem Mac.setPc (h : Mac w B s mb L m gv ov) (v : Int) : Mac (w.setCell ⟨s, 33, none⟩ (.int .i64 v)) B s mb L { m with pc := v } gv ov := h.inS (off_s _ _) (h.core.setPc v) rfl rfl
theorem Mac.stop (h : Mac w B s mb L m gv ov) (v x : Int) : Mac ((w.setCell ⟨s, 35, none⟩ (.int .i64 v)).setCell ⟨s, 36, none⟩ (.int .i64 x)) B s mb L { m with way := v, code := x } gv ov :=
  (h.inS (off_s _ _) (h.core.setWay v) rfl rfl).inS (off_s _ _) ((h.core.setWay v).setCode x) rfl rfl

theorem Off.ws (h : Off (· = s) w w') : Off (Ws s mb ov) w w' := h.mono fun _ _ e => .inl e
theorem Off.wm (h : Off (· = mb) w w') : Off (Ws s mb ov) w w' := h.mono fun _ _ e => .inr (.inl e)

theorem Post.of (hm : Mac w' B s mb L m gv ov) (ho : Off (Ws s mb ov) w w') : Post w B s mb L m ov w' := ⟨gv, ov, hm, ho, fun _ h => .inl h⟩
theorem Post.stop (h : Mac w B s mb L m gv ov) (v x : Int) : Post w B s mb L { m with way := v, code := x } ov ((w.setCell ⟨s, 35, none⟩ (.int .i64 v)).setCell ⟨s, 36, none⟩ (.int .i64 x)) := Post.of (h.stop v x) (((off_s _ _).trans (off_s _ _)).ws)

/-- A number that is given is taken. -/
theorem Mac.taken (h : Mac w B s mb L m gv ov) (t : List Int) (gb o c o' : Nat) (hgB : B ≤ gb) (hg0 : gb < w.heap.size) (hg1 : gb < s) (hg2 : gb ≠ mb) (hg3 : ov.ownBlock ≠ some gb) (hc : t.length + 1 ≤ c) (hc2 : c ≤ 9223372036854775807)
    (hcell : ∀ i (hi : i < t.length), w.cell? ⟨gb, o + 1 + i, none⟩ = some (.int .i64 (t[i]'hi))) (ho : t.length = 0 ∨ o' = o + 1) :
    Mac (w.setCell ⟨s, 34, none⟩ (.slice (some ⟨gb, o', none⟩) t.length (c - 1))) B s mb L { m with G := t } (.slice (some ⟨gb, o', none⟩) t.length (c - 1)) ov := by
  have hof : Off (· = s) w (w.setCell ⟨s, 34, none⟩ (.slice (some ⟨gb, o', none⟩) t.length (c - 1))) := off_s _ _
  refine ⟨h.core.setGiv t _, h.B1, h.Bs, h.Bm, .inr ⟨gb, o', c - 1, rfl, ?_, ?_, Nat.lt_of_lt_of_le hg0 hof.size, hg1, hg2, hg3, fun i hi => ?_⟩, ownsRow_block h.own fun k hk => hof.block k (h.ob hk).2 (fun e => h.os (e ▸ hk)), h.os, h.om, h.o2, fun k e => by cases e; exact hgB⟩
  · show t.length ≤ c - 1; omega
  · omega
  · rw [hof.cell (p := ⟨gb, o' + i, none⟩) hg0 (Nat.ne_of_lt hg1)]
    have hi' : i < t.length := hi
    rcases ho with h0 | h0
    · omega
    · subst h0; exact hcell i hi'

/-- Two calls, one behind the other. -/
theorem Post.trans {w1 w2 : World} {m2 : MS} {ov1 : Value} (ho : Off (Ws s mb ov) w w1) (hk : ∀ k, ov1.ownBlock = some k → ov.ownBlock = some k ∨ w.heap.size ≤ k) (h2 : Post w1 B s mb L m2 ov1 w2) : Post w B s mb L m2 ov w2 := by
  obtain ⟨gv2, ov2, hm, ho2, hk2⟩ := h2
  refine ⟨gv2, ov2, hm, ho.trans' ho2 fun i hi e => ?_, fun k e => ?_⟩
  · rcases e with e | e | e
    · exact .inl e
    · exact .inr (.inl e)
    · rcases hk i e with h | h
      · exact .inr (.inr h)
      · omega
  · rcases hk2 k e with h | h
    · exact hk k h
    · exact .inr (Nat.le_trans ho.size h)
end
end Go.Proofs.YtaodcpdkobhmfaaDoor

namespace Go.Proofs.YtaodcpdkobhmfaaDoor
open Go Go.RowKit

theorem Mac.ovform {w : World} {B s mb L : Nat} {m : MS} {gv ov : Value} (h : Mac w B s mb L m gv ov) : ∃ q c, ov = .slice q m.out.length c := by
  rcases h.own.2 with ⟨h1, h2⟩ | ⟨g, cap, cur, hv, _⟩
  · exact ⟨none, 0, by rw [h1, h2]⟩
  · exact ⟨_, _, hv⟩

/-- What an Ecall does. -/
def callV (m : MS) : MS :=
  if m.R 17 = 1 then (if 200 ≤ m.out.length then { m with way := 7, code := 0 } else { m with out := m.out ++ [m.R 10] })
  else if m.R 17 = 2 then (match m.G with | [] => { m with R := upd m.R 10 0 } | g :: t => { m with G := t, R := upd m.R 10 g })
  else if m.R 17 = 3 then (if m.R 10 < 1 ∨ 8 < m.R 10 then { m with way := 9, code := 0 } else { m with way := m.R 10, code := m.R 11 })
  else { m with way := 9, code := 0 }

abbrev boxP (w : World) (s : Nat) : World := w.alloc (.cells #[.pointer (some ⟨s, 0, none⟩)] 28)

theorem boxP_cell (w : World) (s : Nat) : (boxP w s).cell? ⟨w.heap.size, 0, none⟩ = some (.pointer (some ⟨s, 0, none⟩)) := by
  rw [cell_of_row _ _ _ _ _ _ (heap_alloc_last w _)]; rfl
theorem boxP_below (w : World) (s : Nat) : Below w.heap.size w (boxP w s) := (Below.refl _ _).alloc (Nat.le_refl _) _
theorem boxP_off {S : Nat → Prop} (w : World) (s : Nat) : Off S w (boxP w s) := Off.of_below (boxP_below w s)

/-- A call behind new blocks. -/
theorem Post.grown {w w0 w' : World} {B s mb L : Nat} {m : MS} {ov : Value} (hb : Below w.heap.size w w0) (h : Post w0 B s mb L m ov w') : Post w B s mb L m ov w' :=
  Post.trans (Off.of_below hb) (fun _ e => .inl e) h
theorem Post.drew {w w' : World} {B s mb L : Nat} {m : MS} {ov : Value} (h : Post w B s mb L m ov w') : Post w B s mb L m ov w'.drew := by
  obtain ⟨gv2, ov2, hm, ho, hk⟩ := h
  exact ⟨gv2, ov2, hm.drew, ho.drew, hk⟩

set_option maxRecDepth 100000 in
set_option maxHeartbeats 1000000 in
theorem call_bad (w : World) (B s mb L : Nat) (m : MS) (gv ov : Value) (h : Mac w B s mb L m gv ov) (h1 : m.R 17 ≠ 1) (h2 : m.R 17 ≠ 2) (h3 : m.R 17 ≠ 3) :
    Calls Tryd.prog 45 #[.pointer (some ⟨s, 0, none⟩)] w fun e w' => e = .returned (.tuple #[]) ∧ Post w B s mb L { m with way := 9, code := 0 } ov w' := by
  have HM : Hid (Mac (boxP w s) B s mb L m gv ov) := h.grown (boxP_below w s)
  have r10 := HM.out.core.reg 10 (by omega)
  have r17 := HM.out.core.reg 17 (by omega)
  have cp := boxP_cell w s
  generalize hx : m.R 17 = x at *
  generalize m.R 10 = y at *
  have HX : Hid (m.R 17 = x) := hx
  clear hx
  go_enter Tryd.func45, Tryd.ntmps45
  go_wp2_with (go_at_call 30; refine (stop_any _ s _ _ _ _ HM.out.core.way HM.out.core.cod HM.out.core.fs).mono ?_; rintro e w' ⟨rfl, rfl⟩)
  go_end0
  exact ⟨rfl, Post.grown (boxP_below w s) (Post.stop HM.out 9 0)⟩

set_option maxRecDepth 100000 in
set_option maxHeartbeats 1000000 in
theorem call_full (w : World) (B s mb L : Nat) (m : MS) (gv ov : Value) (h : Mac w B s mb L m gv ov) (h1 : m.R 17 = 1) (h2 : 200 ≤ m.out.length) :
    Calls Tryd.prog 45 #[.pointer (some ⟨s, 0, none⟩)] w fun e w' => e = .returned (.tuple #[]) ∧ Post w B s mb L { m with way := 7, code := 0 } ov w' := by
  have HM : Hid (Mac (boxP w s) B s mb L m gv ov) := h.grown (boxP_below w s)
  obtain ⟨q, c, hov⟩ := h.ovform
  have r10 := HM.out.core.reg 10 (by omega)
  have r17 := HM.out.core.reg 17 (by omega)
  have HO : Hid ((boxP w s).cell? ⟨s, 37, none⟩ = some (.slice q m.out.length c)) := by rw [← hov]; exact HM.out.core.out
  have H2 : Hid (200 ≤ m.out.length) := h2
  have cp := boxP_cell w s
  rw [h1] at r17
  clear h1 h2 h hov
  generalize m.R 10 = y at *
  go_enter Tryd.func45, Tryd.ntmps45
  go_wp2_with (go_at_call 65; refine (tell_full _ w.heap.size s m.out.length c q _ _ _ cp HO.out H2.out (by have := HM.out.o2; omega) HM.out.core.way HM.out.core.cod HM.out.core.fs).mono ?_; rintro e w' ⟨rfl, rfl⟩)
  go_end0
  exact ⟨rfl, Post.grown (boxP_below w s) (Post.stop HM.out 7 0)⟩

/-- A machine that has told one number more. -/
theorem Mac.told {w w' : World} {B s mb L : Nat} {m : MS} {gv ov ov' : Value} (h : Mac w B s mb L m gv ov) (v : Int) (hlt : m.out.length < 200)
    (hown : w'.ownsRow B 2 1 ov' (m.out.length + 1) (outL m.out ++ [.int .i64 v])) (hc : w'.cell? ⟨s, 37, none⟩ = some ov') (hi : ∀ i, i ≠ 37 → w'.cell? ⟨s, i, none⟩ = w.cell? ⟨s, i, none⟩) (hf : ∀ i, w'.frozen? ⟨s, i, none⟩ = false)
    (ho : Off (fun k => k = s ∨ ov.ownBlock = some k) w w') (hk : ∀ k, ov'.ownBlock = some k → ov.ownBlock = some k ∨ w.heap.size ≤ k) : Mac w' B s mb L { m with out := m.out ++ [v] } gv ov' := by
  have hb : ¬ (mb = s ∨ ov.ownBlock = some mb) := fun e => e.elim (fun e => h.core.ne e.symm) h.om
  have b : ∀ i, w'.cell? ⟨mb, i, none⟩ = w.cell? ⟨mb, i, none⟩ := fun i => ho.cell h.core.b0 hb
  have hs0 := h.core.s0
  have hb0 := h.core.b0
  refine ⟨?_, h.B1, h.Bs, h.Bm, ?_, ?_, fun e => ?_, fun e => ?_, ?_, h.gB⟩
  · exact { s0 := Nat.lt_of_lt_of_le h.core.s0 ho.size, b0 := Nat.lt_of_lt_of_le h.core.b0 ho.size, ne := h.core.ne, L1 := h.core.L1, reg := fun i hi' => (hi i (by omega)).trans (h.core.reg i hi'), mem := (hi _ (by omega)).trans h.core.mem, pc := (hi _ (by omega)).trans h.core.pc,
            giv := (hi _ (by omega)).trans h.core.giv, way := (hi _ (by omega)).trans h.core.way, cod := (hi _ (by omega)).trans h.core.cod, out := hc, byt := fun i hi' => (b i).trans (h.core.byt i hi'), fs := hf, fb := fun i => (ho.frozen h.core.b0 hb).trans (h.core.fb i), M0 := h.core.M0 }
  · exact h.giv.keep ho (fun k e => .inl (e.elim .inl (fun e => .inr (.inr e)))) hk
  · simpa [outL] using hown
  · rcases hk s e with h' | h'
    · exact h.os h'
    · omega
  · rcases hk mb e with h' | h'
    · exact h.om h'
    · omega
  · simp; omega

set_option maxRecDepth 100000 in
set_option maxHeartbeats 1000000 in
theorem call_tell (w : World) (B s mb L : Nat) (m : MS) (gv ov : Value) (h : Mac w B s mb L m gv ov) (h1 : m.R 17 = 1) (h2 : m.out.length < 200) :
    Calls Tryd.prog 45 #[.pointer (some ⟨s, 0, none⟩)] w fun e w' => e = .returned (.tuple #[]) ∧ Post w B s mb L { m with out := m.out ++ [m.R 10] } ov w' := by
  have HM : Hid (Mac (boxP w s) B s mb L m gv ov) := h.grown (boxP_below w s)
  obtain ⟨q, c, hov⟩ := h.ovform
  have r10 := HM.out.core.reg 10 (by omega)
  have r17 := HM.out.core.reg 17 (by omega)
  have H2 : Hid (m.out.length < 200) := h2
  have cp := boxP_cell w s
  rw [h1] at r17
  have hs := h.core.s0
  have HQ : Hid (ov.ownBlock ≠ some w.heap.size) := fun e => by have := (h.ob e).2; omega
  have HB : Hid (B ≤ (boxP w s).heap.size) := by show _ ≤ _; have := h.Bs; simp; omega
  have HL : Hid (s < (boxP w s).heap.size) := by show _ < _; simp; omega
  clear h1 h2 h
  have HOV : Hid (ov = .slice q m.out.length c) := hov
  have HT : Hid (∀ v, Calls Tryd.prog 65 #[.int .i64 v, .pointer (some ⟨w.heap.size, 0, none⟩)] (boxP w s) fun e w' => e = .returned (.tuple #[]) ∧ Post w B s mb L { m with out := m.out ++ [v] } ov w') := fun v => by
    subst hov
    refine (tell_more (boxP w s) B w.heap.size s m.out.length c q v (outL m.out) cp HM.out.core.out H2.out HM.out.own HL.out (by simp) HM.out.os HQ.out HB.out HM.out.core.fs).mono ?_
    rintro e w' ⟨rfl, g, cap, k1, k2, k3, k4, k5, k6, k7⟩
    refine ⟨rfl, Post.grown (boxP_below w s) ⟨gv, _, HM.out.told v H2.out k1 k2 k3 k4 k5 ?_, k5.mono fun i _ e => e.elim .inl (fun e => .inr (.inr e)), ?_⟩⟩
    · intro k e
      have e' : g = k := by simpa [Value.ownBlock] using e
      subst e'; exact k6
    · intro k e
      have e' : g = k := by simpa [Value.ownBlock] using e
      subst e'; exact k6
  clear hov
  generalize m.R 10 = y at *
  go_enter Tryd.func45, Tryd.ntmps45
  go_wp2_with (go_at_call 65; refine (HT.out _).mono ?_; rintro e w' ⟨rfl, hp⟩)
  go_end0
  exact ⟨rfl, hp⟩

set_option maxRecDepth 100000 in
set_option maxHeartbeats 1000000 in
theorem call_noway (w : World) (B s mb L : Nat) (m : MS) (gv ov : Value) (h : Mac w B s mb L m gv ov) (h1 : m.R 17 = 3) (h2 : m.R 10 < 1 ∨ 8 < m.R 10) :
    Calls Tryd.prog 45 #[.pointer (some ⟨s, 0, none⟩)] w fun e w' => e = .returned (.tuple #[]) ∧ Post w B s mb L { m with way := 9, code := 0 } ov w' := by
  have HM : Hid (Mac (boxP w s) B s mb L m gv ov) := h.grown (boxP_below w s)
  have r10 := HM.out.core.reg 10 (by omega)
  have r17 := HM.out.core.reg 17 (by omega)
  have cp := boxP_cell w s
  rw [h1] at r17
  clear h1 h
  generalize m.R 10 = y at *
  by_cases h3 : y < 1
  · go_enter Tryd.func45, Tryd.ntmps45
    go_wp2_with (go_at_call 30; refine (stop_any _ s _ _ _ _ HM.out.core.way HM.out.core.cod HM.out.core.fs).mono ?_; rintro e w' ⟨rfl, rfl⟩)
    go_end0
    exact ⟨rfl, Post.grown (boxP_below w s) (Post.stop HM.out 9 0)⟩
  · have h4 : 8 < y := by omega
    go_enter Tryd.func45, Tryd.ntmps45
    go_wp2_with (go_at_call 30; refine (stop_any _ s _ _ _ _ HM.out.core.way HM.out.core.cod HM.out.core.fs).mono ?_; rintro e w' ⟨rfl, rfl⟩)
    go_end0
    exact ⟨rfl, Post.grown (boxP_below w s) (Post.stop HM.out 9 0)⟩
end Go.Proofs.YtaodcpdkobhmfaaDoor
