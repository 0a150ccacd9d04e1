/- Which blocks a call may have turned; a draft in memory; strings that are cut. -/
import Derived.Test.YtjjjdplgdlaihaaGreatDoorB4
import Derived.Below
import Derived.BigRegion
namespace Go.Proofs.YtjjjdplgdlaihaaGreatDoor
open Go Go.RowKit

/-- Of what was there, nothing has turned outside the blocks of S. -/
structure Off (S : Nat → Prop) (w w' : World) : Prop where
  os : w'.os = w.os
  tape : w'.tape = w.tape
  output : w'.output = w.output
  size : w.heap.size ≤ w'.heap.size
  block : ∀ k, k < w.heap.size → ¬ S k → w'.heap[k]? = w.heap[k]?

theorem Off.refl (S : Nat → Prop) (w : World) : Off S w w := ⟨rfl, rfl, rfl, Nat.le_refl _, fun _ _ _ => rfl⟩
theorem Off.trans {S : Nat → Prop} {a b c : World} (h : Off S a b) (k : Off S b c) : Off S a c :=
  ⟨k.os.trans h.os, k.tape.trans h.tape, k.output.trans h.output, Nat.le_trans h.size k.size, fun i hi hs => (k.block i (Nat.lt_of_lt_of_le hi h.size) hs).trans (h.block i hi hs)⟩
/-- Two calls; the second may turn what the first made, too. -/
theorem Off.trans' {S S' : Nat → Prop} {a b c : World} (h : Off S a b) (k : Off S' b c) (hs : ∀ i, i < a.heap.size → S' i → S i) : Off S a c :=
  ⟨k.os.trans h.os, k.tape.trans h.tape, k.output.trans h.output, Nat.le_trans h.size k.size, fun i hi hn => (k.block i (Nat.lt_of_lt_of_le hi h.size) (fun e => hn (hs i hi e))).trans (h.block i hi hn)⟩
theorem Off.mono {S S' : Nat → Prop} {a b : World} (h : Off S a b) (hs : ∀ i, i < a.heap.size → S i → S' i) : Off S' a b :=
  ⟨h.os, h.tape, h.output, h.size, fun i hi hn => h.block i hi (fun e => hn (hs i hi e))⟩
theorem Off.of_below {S : Nat → Prop} {a b : World} (h : Below a.heap.size a b) : Off S a b := ⟨h.os, h.tape, h.output, h.size, fun i hi _ => h.block i hi⟩
theorem Off.below {S : Nat → Prop} {a b : World} (h : Off S a b) {B : Nat} (hB : B ≤ a.heap.size) (hs : ∀ i, i < B → ¬ S i) : Below B a b := ⟨h.os, h.tape, h.output, h.size, fun i hi => h.block i (Nat.lt_of_lt_of_le hi hB) (hs i hi)⟩
theorem Off.drew {S : Nat → Prop} {a w : World} (h : Off S a w) : Off S a w.drew := ⟨h.os, h.tape, h.output, h.size, h.block⟩
theorem Off.drewN {S : Nat → Prop} {a w : World} (h : Off S a w) (n : Nat) : Off S a (w.drewN n) := ⟨h.os, h.tape, h.output, h.size, h.block⟩
theorem Off.alloc {S : Nat → Prop} {a w : World} (h : Off S a w) (o : Obj) : Off S a (w.alloc o) :=
  h.trans ⟨rfl, rfl, rfl, by simp, fun k hk _ => Below.heap_alloc _ _ _ hk⟩
theorem Off.setCell {S : Nat → Prop} {a w : World} (h : Off S a w) {p : Addr} (hp : p.block < a.heap.size → S p.block) (u : Value) : Off S a (w.setCell p u) :=
  ⟨h.os, h.tape, h.output, by simpa [World.setCell] using h.size, fun k hk hn => by
    have hne : k ≠ p.block := fun e => hn (e ▸ hp (e ▸ hk))
    rw [Below.heap_setCell _ _ _ _ hne]; exact h.block k hk hn⟩
theorem Off.cell {S : Nat → Prop} {w w' : World} (h : Off S w w') {p : Addr} (hp : p.block < w.heap.size) (hn : ¬ S p.block) : w'.cell? p = w.cell? p := World.cell?_of_block (w := w) (h.block p.block hp hn)
theorem Off.frozen {S : Nat → Prop} {w w' : World} (h : Off S w w') {p : Addr} (hp : p.block < w.heap.size) (hn : ¬ S p.block) : w'.frozen? p = w.frozen? p := World.frozen?_of_block (w := w) (h.block p.block hp hn)


theorem off_g {w : World} {g : Nat} (a : Nat) (v : Value) : Off (· = g) w (w.setCell ⟨g, a, none⟩ v) := (Off.refl (· = g) w).setCell (p := ⟨g, a, none⟩) (fun _ => rfl) v

theorem ixB_cases (l : By) (c : UInt8) : Lib.indexByte l c = -1 ∨ 0 ≤ Lib.indexByte l c := by
  induction l with
  | nil => exact .inl rfl
  | cons b l ih =>
    rw [Lib.indexByte]
    split
    · right; omega
    · split
      · exact .inl rfl
      · rename_i h
        simp at h
        right
        omega

theorem cut_is (l : By) (c : UInt8) : Lib.cut l [c] = cutC c l := by
  induction l with
  | nil => rfl
  | cons b l ih =>
    unfold Lib.cut at ih ⊢
    rw [Lib.index_one] at ih ⊢
    rw [Lib.indexByte, cutC]
    by_cases hb : b = c
    · have : (b == c) = true := by simp [hb]
      rw [if_pos this, if_pos hb]
      rfl
    · have : ¬ (b == c) = true := by simp [hb]
      rw [if_neg this, if_neg hb, ← ih]
      rcases ixB_cases l c with h | h
      · have h1 : (Lib.indexByte l c == -1) = true := by simp [h]
        rw [if_pos h1, h]
        rfl
      · have h1 : ¬ (Lib.indexByte l c == -1) = true := by simp; omega
        rw [if_neg h1, if_pos (by omega), if_pos h]
        have e : (Lib.indexByte l c + 1).toNat = (Lib.indexByte l c).toNat + 1 := by omega
        rw [e]
        simp

theorem cut_any (s : ByteArray) (c : UInt8) (w : World) (he : Env w) (hs : s.size < 4294967281) :
    Calls Tryz.prog 59 #[.string s, .string ⟨#[c]⟩] w fun e w' => e = .returned (.tuple #[str (cutC c s.data.toList).1, str (cutC c s.data.toList).2.1, .bool (cutC c s.data.toList).2.2]) ∧ ∃ n, w' = w.drewN n := by
  obtain ⟨m, hm⟩ := he.max
  have := Tryz.strings_Cut s ⟨#[c]⟩ m w hs hm
  have e : (ByteArray.mk #[c]).data.toList = [c] := rfl
  rw [e, cut_is] at this
  exact this

theorem suf_yes (l : By) (c : UInt8) (h : l.getLast? = some c) : Lib.hasSuffix l [c] = true ∧ Lib.trimSuffix l [c] = l.dropLast := by
  obtain ⟨t, rfl⟩ : ∃ t, l = t ++ [c] := by
    rw [List.getLast?_eq_some_iff] at h
    exact h
  have h1 : Lib.hasSuffix (t ++ [c]) [c] = true := by
    unfold Lib.hasSuffix
    rw [List.isSuffixOf_iff_suffix]
    exact List.suffix_append t [c]
  refine ⟨h1, ?_⟩
  unfold Lib.trimSuffix
  rw [h1]
  simp
theorem suf_no (l : By) (c : UInt8) (h : l.getLast? ≠ some c) : Lib.hasSuffix l [c] = false := by
  unfold Lib.hasSuffix
  rw [Bool.eq_false_iff]
  intro e
  rw [List.isSuffixOf_iff_suffix] at e
  obtain ⟨t, rfl⟩ := e
  exact h (by simp)

/-- What is kept where nothing below the call's own blocks has turned. -/
theorem TabAt.keep {w w' : World} {o k : Nat} {l m h : Int} {cs : List Value} (ht : TabAt w o k l m h cs) (hb : Below 11 w w') : TabAt w' o k l m h cs := by
  have c0 : ∀ j, w'.cell? ⟨3, j, none⟩ = w.cell? ⟨3, j, none⟩ := fun j => hb.cell (p := ⟨3, j, none⟩) (by simp)
  have hs := hb.size
  exact ⟨Nat.lt_of_lt_of_le ht.z0 hs, Nat.lt_of_lt_of_le ht.z1 hs, (c0 _).trans ht.f0, (c0 _).trans ht.f1, (c0 _).trans ht.f2, (c0 _).trans ht.f3, rangeAt_below ht.rng hb (by omega)⟩
theorem var_keep {w w' : World} {name : String} {cs : Array Value} {g : Nat} (hg : Tryz.prog.globalNamed name = some g) (hl : g < 11) (h : w.var? Tryz.prog name = some cs) (hb : Below 11 w w') : w'.var? Tryz.prog name = some cs := by
  unfold World.var? at *
  simp only [hg, Option.bind_some] at h ⊢
  rw [hb.block g hl]
  exact h
theorem Env.keep {w w' : World} (h : Env w) (hb : Below 11 w w') : Env w' := by
  obtain ⟨m, hm⟩ := h.max
  obtain ⟨t1, p1, h1⟩ := h.syn
  obtain ⟨t2, p2, h2⟩ := h.rng
  exact ⟨fun o a b => (h.tab o a b).keep hb, fun o a b => (hb.cell (p := ⟨1, o * 2, none⟩) (by simp)).trans (h.opn o a b), fun o a b => (hb.cell (p := ⟨1, o * 2 + 1, none⟩) (by simp)).trans (h.opp o a b), var_keep (g := 5) (by kernel_rfl) (by omega) h.pow hb, ⟨m, (hb.cell (p := ⟨6, 0, none⟩) (by simp)).trans hm⟩,
    ⟨t1, p1, var_keep (g := 9) (by kernel_rfl) (by omega) h1 hb⟩, ⟨t2, p2, var_keep (g := 10) (by kernel_rfl) (by omega) h2 hb⟩⟩

/-- A draft in memory. -/
structure DrAt (w : World) (g : Nat) (d : Dr) (ln : Int) : Prop where
  g0 : 11 ≤ g
  c0 : w.cell? ⟨g, 0, none⟩ = some (.int .i64 d.o)
  c1 : w.cell? ⟨g, 1, none⟩ = some (.int .i64 d.d)
  c2 : w.cell? ⟨g, 2, none⟩ = some (.int .i64 d.a)
  c3 : w.cell? ⟨g, 3, none⟩ = some (.int .i64 d.b)
  c4 : w.cell? ⟨g, 4, none⟩ = some (.int .i64 d.n)
  c5 : w.cell? ⟨g, 5, none⟩ = some (str d.pl)
  c6 : w.cell? ⟨g, 6, none⟩ = some (.int .i64 ln)
  fz : ∀ i, w.frozen? ⟨g, i, none⟩ = false

section
variable {w w' : World} {g : Nat} {d : Dr} {ln : Int}
theorem DrAt.lt (h : DrAt w g d ln) : g < w.heap.size := block_lt_of_cell h.c0
theorem DrAt.below (h : DrAt w g d ln) (hb : Below w.heap.size w w') : DrAt w' g d ln := by
  have c : ∀ i, w'.cell? ⟨g, i, none⟩ = w.cell? ⟨g, i, none⟩ := fun i => hb.cell (p := ⟨g, i, none⟩) h.lt
  exact ⟨h.g0, (c _).trans h.c0, (c _).trans h.c1, (c _).trans h.c2, (c _).trans h.c3, (c _).trans h.c4, (c _).trans h.c5, (c _).trans h.c6, fun i => (World.frozen?_of_block (w := w) (hb.block g h.lt)).trans (h.fz i)⟩
theorem other (w : World) (g : Nat) {i k : Nat} (hi : i ≠ k) (v : Value) : (w.setCell ⟨g, k, none⟩ v).cell? ⟨g, i, none⟩ = w.cell? ⟨g, i, none⟩ := World.cell?_setCell_other _ _ _ _ (by intro h; injection h with h1 h2; exact hi h2.symm)
theorem DrAt.setD (h : DrAt w g d ln) (v : Int) : DrAt (w.setCell ⟨g, 1, none⟩ (.int .i64 v)) g { d with d := v } ln :=
  ⟨h.g0, (other w g (by omega) _).trans h.c0, World.cell?_setCell_same _ _ _ h.c1, (other w g (by omega) _).trans h.c2, (other w g (by omega) _).trans h.c3, (other w g (by omega) _).trans h.c4, (other w g (by omega) _).trans h.c5, (other w g (by omega) _).trans h.c6, fun i => by rw [World.frozen?_setCell]; exact h.fz i⟩
theorem DrAt.setA (h : DrAt w g d ln) (v : Int) : DrAt (w.setCell ⟨g, 2, none⟩ (.int .i64 v)) g { d with a := v } ln :=
  ⟨h.g0, (other w g (by omega) _).trans h.c0, (other w g (by omega) _).trans h.c1, World.cell?_setCell_same _ _ _ h.c2, (other w g (by omega) _).trans h.c3, (other w g (by omega) _).trans h.c4, (other w g (by omega) _).trans h.c5, (other w g (by omega) _).trans h.c6, fun i => by rw [World.frozen?_setCell]; exact h.fz i⟩
theorem DrAt.setB (h : DrAt w g d ln) (v : Int) : DrAt (w.setCell ⟨g, 3, none⟩ (.int .i64 v)) g { d with b := v } ln :=
  ⟨h.g0, (other w g (by omega) _).trans h.c0, (other w g (by omega) _).trans h.c1, (other w g (by omega) _).trans h.c2, World.cell?_setCell_same _ _ _ h.c3, (other w g (by omega) _).trans h.c4, (other w g (by omega) _).trans h.c5, (other w g (by omega) _).trans h.c6, fun i => by rw [World.frozen?_setCell]; exact h.fz i⟩
theorem DrAt.setN (h : DrAt w g d ln) (v : Int) : DrAt (w.setCell ⟨g, 4, none⟩ (.int .i64 v)) g { d with n := v } ln :=
  ⟨h.g0, (other w g (by omega) _).trans h.c0, (other w g (by omega) _).trans h.c1, (other w g (by omega) _).trans h.c2, (other w g (by omega) _).trans h.c3, World.cell?_setCell_same _ _ _ h.c4, (other w g (by omega) _).trans h.c5, (other w g (by omega) _).trans h.c6, fun i => by rw [World.frozen?_setCell]; exact h.fz i⟩
theorem DrAt.setP (h : DrAt w g d ln) (v : By) : DrAt (w.setCell ⟨g, 5, none⟩ (str v)) g { d with pl := v } ln :=
  ⟨h.g0, (other w g (by omega) _).trans h.c0, (other w g (by omega) _).trans h.c1, (other w g (by omega) _).trans h.c2, (other w g (by omega) _).trans h.c3, (other w g (by omega) _).trans h.c4, World.cell?_setCell_same _ _ _ h.c5, (other w g (by omega) _).trans h.c6, fun i => by rw [World.frozen?_setCell]; exact h.fz i⟩
end
end Go.Proofs.YtjjjdplgdlaihaaGreatDoor
