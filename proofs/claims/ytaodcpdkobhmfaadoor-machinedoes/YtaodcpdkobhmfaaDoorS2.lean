/- The document's machine with all that it holds; how it stays one. -/
import Derived.Test.YtaodcpdkobhmfaaDoorS0
namespace Go.Proofs.YtaodcpdkobhmfaaDoor
open Go Go.RowKit

structure DMac (w : World) (B s mb n L : Nat) (m : MS) (gv ov : Value) : Prop where
  core : Doc w s mb n L m gv ov
  B1 : 1 < B
  Bs : B ≤ s
  Bm : B ≤ mb
  giv : Giv w s mb gv ov m.G
  own : w.ownsRow B 2 1 ov m.out.length (outL m.out)
  os : ov.ownBlock ≠ some s
  om : ov.ownBlock ≠ some mb
  o2 : m.out.length ≤ 200

/-- Behind a call: the machine is there, and nothing else has turned. -/
def DPost (w : World) (B s mb n L : Nat) (m : MS) (ov : Value) (w' : World) : Prop :=
  ∃ gv' ov', DMac w' B s mb n L m gv' ov' ∧ Off (Ws s mb ov) w w' ∧ ∀ k, ov'.ownBlock = some k → ov.ownBlock = some k ∨ w.heap.size ≤ k

section
variable {w w' : World} {B s mb n L : Nat} {m : MS} {gv ov : Value}

theorem WdsIs.block {M : Nat → Int} (h : WdsIs w mb n L M) (hb : w'.heap[mb]? = w.heap[mb]?) : WdsIs w' mb n L M := by
  obtain ⟨W, ⟨D, ⟨es, clock, h1, h2⟩, hat⟩, hW⟩ := h
  exact ⟨W, ⟨D, ⟨es, clock, hb.trans h1, h2⟩, hat⟩, hW⟩

theorem WdsIs.more {M : Nat → Int} (h : WdsIs w mb n L M) {n' : Nat} (hn : n ≤ n') : WdsIs w mb n' L M := by
  obtain ⟨W, ⟨D, ⟨es, clock, h1, h2, h3, h4⟩, hat⟩, hW⟩ := h
  exact ⟨W, ⟨D, ⟨es, clock, h1, h2, Nat.le_trans h3 hn, h4⟩, hat⟩, hW⟩

theorem Doc.more (h : Doc w s mb n L m gv ov) {n' : Nat} (hn : n ≤ n') : Doc w s mb n' L m gv ov := { h with wds := h.wds.more hn }
theorem DMac.more (h : DMac w B s mb n L m gv ov) {n' : Nat} (hn : n ≤ n') : DMac w B s mb n' L m gv ov := { h with core := h.core.more hn }

theorem Doc.off (h : Doc w s mb n L m gv ov) {S : Nat → Prop} (ho : Off S w w') (hs : ¬ S s) (hb : ¬ S mb) : Doc w' s mb n L m gv ov := by
  have c : ∀ i, w'.cell? ⟨s, i, none⟩ = w.cell? ⟨s, i, none⟩ := fun i => ho.cell h.s0 hs
  exact ⟨Nat.lt_of_lt_of_le h.s0 ho.size, Nat.lt_of_lt_of_le h.b0 ho.size, h.ne, h.L1, fun i hi => (c i).trans (h.reg i hi), (c _).trans h.mem, (c _).trans h.siz, (c _).trans h.pc, (c _).trans h.giv, (c _).trans h.way, (c _).trans h.cod, (c _).trans h.out, h.wds.block (ho.block mb h.b0 hb),
    fun i => (ho.frozen h.s0 hs).trans (h.fs i)⟩

theorem DMac.ob (h : DMac w B s mb n L m gv ov) {k : Nat} (hk : ov.ownBlock = some k) : B ≤ k ∧ k < w.heap.size := h.own.lt k hk

/-- Nothing of it has turned. -/
theorem DMac.off (h : DMac w B s mb n L m gv ov) {S : Nat → Prop} (ho : Off S w w') (hs : ∀ k, k < w.heap.size → S k → k ≠ s ∧ k ≠ mb ∧ ov.ownBlock ≠ some k ∧ gv.ownBlock ≠ some k) : DMac w' B s mb n L m gv ov := by
  have hS : ¬ S s := fun e => (hs s h.core.s0 e).1 rfl
  have hM : ¬ S mb := fun e => (hs mb h.core.b0 e).2.1 rfl
  refine ⟨h.core.off ho hS hM, h.B1, h.Bs, h.Bm, ?_, ownsRow_block h.own fun k hk => ?_, h.os, h.om, h.o2⟩
  · rcases h.giv with h' | ⟨gb, o, c, h1, h2, h3, h4, h5, h6, h7, h8⟩
    · exact .inl h'
    · refine .inr ⟨gb, o, c, h1, h2, h3, Nat.lt_of_lt_of_le h4 ho.size, h5, h6, h7, fun i hi => ?_⟩
      rw [ho.cell (p := ⟨gb, o + i, none⟩) h4 (fun e => (hs gb h4 e).2.2.2 (by rw [h1]; rfl))]
      exact h8 i hi
  · obtain ⟨_, b⟩ := h.ob hk
    exact ho.block k b (fun e => (hs k b e).2.2.1 hk)

/-- New blocks alone. -/
theorem DMac.grown (h : DMac w B s mb n L m gv ov) (hb : Below w.heap.size w w') : DMac w' B s mb n L m gv ov := h.off (S := fun _ => False) (Off.of_below hb) (fun _ _ h => h.elim)

/-- The struct alone has turned. -/
theorem DMac.inS (h : DMac w B s mb n L m gv ov) (ho : Off (· = s) w w') {m' : MS} (hc : Doc w' s mb n L m' gv ov) (hG : m'.G = m.G) (hO : m'.out = m.out) : DMac w' B s mb n L m' gv ov := by
  refine ⟨hc, h.B1, h.Bs, h.Bm, ?_, ?_, h.os, h.om, by rw [hO]; exact h.o2⟩
  · rw [hG]; exact h.giv.keep ho (fun k e => .inl (.inl e)) (fun k e => .inl e)
  · rw [hO]; exact ownsRow_block h.own fun k hk => ho.block k (h.ob hk).2 (fun e => h.os (e ▸ hk))

/-- The bytes alone have turned. -/
theorem DMac.inM (h : DMac w B s mb n L m gv ov) (ho : Off (· = mb) w w') {m' : MS} (hc : Doc w' s mb n L m' gv ov) (hG : m'.G = m.G) (hO : m'.out = m.out) : DMac w' B s mb n L m' gv ov := by
  refine ⟨hc, h.B1, h.Bs, h.Bm, ?_, ?_, h.os, h.om, by rw [hO]; exact h.o2⟩
  · rw [hG]; exact h.giv.keep ho (fun k e => .inl (.inr (.inl e))) (fun k e => .inl e)
  · rw [hO]; exact ownsRow_block h.own fun k hk => ho.block k (h.ob hk).2 (fun e => h.om (e ▸ hk))

/-- One cell of the struct. -/
theorem Doc.setReg (h : Doc w s mb n L m gv ov) (d : Nat) (hd : d < 32) (v : Int) : Doc (w.setCell ⟨s, d, none⟩ (.int .i64 v)) s mb n L { m with R := upd m.R d v } gv ov := by
  have c : ∀ i, i ≠ d → (w.setCell ⟨s, d, none⟩ (.int .i64 v)).cell? ⟨s, i, none⟩ = w.cell? ⟨s, i, none⟩ := fun i hi => World.cell?_setCell_other _ _ _ _ (by intro h; injection h with h1 h2; exact hi h2.symm)
  have b := off_s (w := w) (s := s) d (.int .i64 v)
  have hr : ∀ i, i < 32 → (w.setCell ⟨s, d, none⟩ (.int .i64 v)).cell? ⟨s, i, none⟩ = some (.int .i64 (upd m.R d v i)) := fun i hi => by
    unfold upd
    by_cases e : i = d
    · subst e; rw [if_pos rfl]; exact World.cell?_setCell_same _ _ _ (h.reg i hi)
    · rw [if_neg e]; exact (c i e).trans (h.reg i hi)
  exact { s0 := by simpa [World.setCell] using h.s0, b0 := by simpa [World.setCell] using h.b0, ne := h.ne, L1 := h.L1, reg := hr, mem := (c _ (by omega)).trans h.mem, pc := (c _ (by omega)).trans h.pc, giv := (c _ (by omega)).trans h.giv,
          way := (c _ (by omega)).trans h.way, cod := (c _ (by omega)).trans h.cod, out := (c _ (by omega)).trans h.out, siz := (c _ (by omega)).trans h.siz, wds := h.wds.block (b.block mb h.b0 (fun e => h.ne e.symm)), fs := fun i => by rw [World.frozen?_setCell]; exact h.fs i }

theorem Doc.setPc (h : Doc w s mb n L m gv ov) (v : Int) : Doc (w.setCell ⟨s, 34, none⟩ (.int .i64 v)) s mb n L { m with pc := v } gv ov := by
  have c : ∀ i, i ≠ 34 → (w.setCell ⟨s, 34, none⟩ (.int .i64 v)).cell? ⟨s, i, none⟩ = w.cell? ⟨s, i, none⟩ := fun i hi => World.cell?_setCell_other _ _ _ _ (by intro h; injection h with h1 h2; exact hi h2.symm)
  have b := off_s (w := w) (s := s) 34 (.int .i64 v)
  exact { s0 := by simpa [World.setCell] using h.s0, b0 := by simpa [World.setCell] using h.b0, ne := h.ne, L1 := h.L1, reg := fun i hi => (c i (by omega)).trans (h.reg i hi), mem := (c _ (by omega)).trans h.mem, pc := World.cell?_setCell_same _ _ _ h.pc, giv := (c _ (by omega)).trans h.giv,
          way := (c _ (by omega)).trans h.way, cod := (c _ (by omega)).trans h.cod, out := (c _ (by omega)).trans h.out, siz := (c _ (by omega)).trans h.siz, wds := h.wds.block (b.block mb h.b0 (fun e => h.ne e.symm)), fs := fun i => by rw [World.frozen?_setCell]; exact h.fs i }

theorem Doc.setWay (h : Doc w s mb n L m gv ov) (v : Int) : Doc (w.setCell ⟨s, 36, none⟩ (.int .i64 v)) s mb n L { m with way := v } gv ov := by
  have c : ∀ i, i ≠ 36 → (w.setCell ⟨s, 36, none⟩ (.int .i64 v)).cell? ⟨s, i, none⟩ = w.cell? ⟨s, i, none⟩ := fun i hi => World.cell?_setCell_other _ _ _ _ (by intro h; injection h with h1 h2; exact hi h2.symm)
  have b := off_s (w := w) (s := s) 36 (.int .i64 v)
  exact { s0 := by simpa [World.setCell] using h.s0, b0 := by simpa [World.setCell] using h.b0, ne := h.ne, L1 := h.L1, reg := fun i hi => (c i (by omega)).trans (h.reg i hi), mem := (c _ (by omega)).trans h.mem, pc := (c _ (by omega)).trans h.pc, giv := (c _ (by omega)).trans h.giv,
          way := World.cell?_setCell_same _ _ _ h.way, cod := (c _ (by omega)).trans h.cod, out := (c _ (by omega)).trans h.out, siz := (c _ (by omega)).trans h.siz, wds := h.wds.block (b.block mb h.b0 (fun e => h.ne e.symm)), fs := fun i => by rw [World.frozen?_setCell]; exact h.fs i }

theorem Doc.setCode (h : Doc w s mb n L m gv ov) (v : Int) : Doc (w.setCell ⟨s, 37, none⟩ (.int .i64 v)) s mb n L { m with code := v } gv ov := by
  have c : ∀ i, i ≠ 37 → (w.setCell ⟨s, 37, none⟩ (.int .i64 v)).cell? ⟨s, i, none⟩ = w.cell? ⟨s, i, none⟩ := fun i hi => World.cell?_setCell_other _ _ _ _ (by intro h; injection h with h1 h2; exact hi h2.symm)
  have b := off_s (w := w) (s := s) 37 (.int .i64 v)
  exact { s0 := by simpa [World.setCell] using h.s0, b0 := by simpa [World.setCell] using h.b0, ne := h.ne, L1 := h.L1, reg := fun i hi => (c i (by omega)).trans (h.reg i hi), mem := (c _ (by omega)).trans h.mem, pc := (c _ (by omega)).trans h.pc, giv := (c _ (by omega)).trans h.giv,
          way := (c _ (by omega)).trans h.way, cod := World.cell?_setCell_same _ _ _ h.cod, out := (c _ (by omega)).trans h.out, siz := (c _ (by omega)).trans h.siz, wds := h.wds.block (b.block mb h.b0 (fun e => h.ne e.symm)), fs := fun i => by rw [World.frozen?_setCell]; exact h.fs i }

theorem Doc.setGiv (h : Doc w s mb n L m gv ov) (G : List Int) (v : Value) : Doc (w.setCell ⟨s, 35, none⟩ v) s mb n L { m with G := G } v ov := by
  have c : ∀ i, i ≠ 35 → (w.setCell ⟨s, 35, none⟩ v).cell? ⟨s, i, none⟩ = w.cell? ⟨s, i, none⟩ := fun i hi => World.cell?_setCell_other _ _ _ _ (by intro h; injection h with h1 h2; exact hi h2.symm)
  have b := off_s (w := w) (s := s) 35 v
  exact { s0 := by simpa [World.setCell] using h.s0, b0 := by simpa [World.setCell] using h.b0, ne := h.ne, L1 := h.L1, reg := fun i hi => (c i (by omega)).trans (h.reg i hi), mem := (c _ (by omega)).trans h.mem, pc := (c _ (by omega)).trans h.pc, giv := World.cell?_setCell_same _ _ _ h.giv,
          way := (c _ (by omega)).trans h.way, cod := (c _ (by omega)).trans h.cod, out := (c _ (by omega)).trans h.out, siz := (c _ (by omega)).trans h.siz, wds := h.wds.block (b.block mb h.b0 (fun e => h.ne e.symm)), fs := fun i => by rw [World.frozen?_setCell]; exact h.fs i }

theorem Doc.drew (h : Doc w s mb n L m gv ov) : Doc w.drew s mb n L m gv ov := h.off (S := fun _ => False) (Off.refl _ _).drew (fun h => h) (fun h => h)
theorem DMac.drew (h : DMac w B s mb n L m gv ov) : DMac w.drew B s mb n L m gv ov := h.off (S := fun _ => False) (Off.refl _ _).drew (fun _ _ h => h.elim)

theorem DMac.setReg (h : DMac w B s mb n L m gv ov) (d : Nat) (hd : d < 32) (v : Int) : DMac (w.setCell ⟨s, d, none⟩ (.int .i64 v)) B s mb n L { m with R := upd m.R d v } gv ov := h.inS (off_s _ _) (h.core.setReg d hd v) rfl rfl
theorem DMac.setPc (h : DMac w B s mb n L m gv ov) (v : Int) : DMac (w.setCell ⟨s, 34, none⟩ (.int .i64 v)) B s mb n L { m with pc := v } gv ov := h.inS (off_s _ _) (h.core.setPc v) rfl rfl
theorem DMac.stop (h : DMac w B s mb n L m gv ov) (v x : Int) : DMac ((w.setCell ⟨s, 36, none⟩ (.int .i64 v)).setCell ⟨s, 37, none⟩ (.int .i64 x)) B s mb n L { m with way := v, code := x } gv ov :=
  (h.inS (off_s _ _) (h.core.setWay v) rfl rfl).inS (off_s _ _) ((h.core.setWay v).setCode x) rfl rfl


theorem DPost.of (hm : DMac w' B s mb n L m gv ov) (ho : Off (Ws s mb ov) w w') : DPost w B s mb n L m ov w' := ⟨gv, ov, hm, ho, fun _ h => .inl h⟩
theorem DPost.stop (h : DMac w B s mb n L m gv ov) (v x : Int) : DPost w B s mb n L { m with way := v, code := x } ov ((w.setCell ⟨s, 36, none⟩ (.int .i64 v)).setCell ⟨s, 37, none⟩ (.int .i64 x)) := DPost.of (h.stop v x) (((off_s _ _).trans (off_s _ _)).ws)

/-- A number that is given is taken. -/
theorem DMac.taken (h : DMac w B s mb n L m gv ov) (t : List Int) (gb o c o' : Nat) (hg0 : gb < w.heap.size) (hg1 : gb < s) (hg2 : gb ≠ mb) (hg3 : ov.ownBlock ≠ some gb) (hc : t.length + 1 ≤ c) (hc2 : c ≤ 9223372036854775807)
    (hcell : ∀ i (hi : i < t.length), w.cell? ⟨gb, o + 1 + i, none⟩ = some (.int .i64 (t[i]'hi))) (ho : t.length = 0 ∨ o' = o + 1) :
    DMac (w.setCell ⟨s, 35, none⟩ (.slice (some ⟨gb, o', none⟩) t.length (c - 1))) B s mb n L { m with G := t } (.slice (some ⟨gb, o', none⟩) t.length (c - 1)) ov := by
  have hof : Off (· = s) w (w.setCell ⟨s, 35, none⟩ (.slice (some ⟨gb, o', none⟩) t.length (c - 1))) := off_s _ _
  refine ⟨h.core.setGiv t _, h.B1, h.Bs, h.Bm, .inr ⟨gb, o', c - 1, rfl, ?_, ?_, Nat.lt_of_lt_of_le hg0 hof.size, hg1, hg2, hg3, fun i hi => ?_⟩, ownsRow_block h.own fun k hk => hof.block k (h.ob hk).2 (fun e => h.os (e ▸ hk)), h.os, h.om, h.o2⟩
  · show t.length ≤ c - 1; omega
  · omega
  · rw [hof.cell (p := ⟨gb, o' + i, none⟩) hg0 (Nat.ne_of_lt hg1)]
    have hi' : i < t.length := hi
    rcases ho with h0 | h0
    · omega
    · subst h0; exact hcell i hi'

/-- Two calls, one behind the other. -/
theorem DPost.trans {w1 w2 : World} {m2 : MS} {ov1 : Value} (ho : Off (Ws s mb ov) w w1) (hk : ∀ k, ov1.ownBlock = some k → ov.ownBlock = some k ∨ w.heap.size ≤ k) (h2 : DPost w1 B s mb n L m2 ov1 w2) : DPost w B s mb n L m2 ov w2 := by
  obtain ⟨gv2, ov2, hm, ho2, hk2⟩ := h2
  refine ⟨gv2, ov2, hm, ho.trans' ho2 fun i hi e => ?_, fun k e => ?_⟩
  · rcases e with e | e | e
    · exact .inl e
    · exact .inr (.inl e)
    · rcases hk i e with h | h
      · exact .inr (.inr h)
      · omega
  · rcases hk2 k e with h | h
    · exact hk k h
    · exact .inr (Nat.le_trans ho.size h)
end
end Go.Proofs.YtaodcpdkobhmfaaDoor
