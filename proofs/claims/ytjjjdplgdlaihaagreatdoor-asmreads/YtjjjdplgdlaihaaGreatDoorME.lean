/- Package asm's readRegister, walked. Which blocks a call may have turned; a draft in memory; strings that are cut. Package asm's take, walked, kind by kind. Package asm's take at a number with a register in brackets, walked. -/
import Derived.Test.YtjjjdplgdlaihaaGreatDoorMD
import Derived.Below
import Derived.BigRegion
namespace Go.Proofs.YtjjjdplgdlaihaaGreatDoor
open Go Go.RowKit

theorem pre_yes (t : By) : Lib.hasPrefix (120 :: t) [120] = true ∧ Lib.trimPrefix (120 :: t) [120] = t := by
  have h : Lib.hasPrefix (120 :: t) [120] = true := by simp [Lib.hasPrefix, List.isPrefixOf]
  exact ⟨h, by unfold Lib.trimPrefix; rw [h]; rfl⟩
theorem pre_no (l : By) (h : ∀ t, l ≠ 120 :: t) : Lib.hasPrefix l [120] = false := by
  cases l with
  | nil => rfl
  | cons c t =>
    have : ¬ c = 120 := fun e => h t (by rw [e])
    simp [Lib.hasPrefix, List.isPrefixOf]
    exact fun e => this e.symm

theorem rgs_split {l : By} {v : Int} (h : rgsV l = some v) : ∃ t, l = 120 :: t ∧ numV t = some v ∧ 0 ≤ v ∧ v < 32 := by
  cases l with
  | nil => simp [rgsV] at h
  | cons c t =>
    unfold rgsV at h
    dsimp only at h
    split at h
    · rename_i hc
      split at h
      · rename_i n hn
        split at h
        · rename_i hr
          injection h with h
          subst h
          exact ⟨t, by rw [hc], hn, hr.1, hr.2⟩
        · cases h
      · cases h
    · cases h

abbrev nW (w : World) : World := w.alloc (.cells #[.int .i64 0] 2)

set_option maxHeartbeats 2000000 in
theorem reg_yes (s : ByteArray) (p : Addr) (old : Value) (v : Int) (w : World) (he : Env w) (hsz : s.size ≤ 281474976710656) (h : rgsV s.data.toList = some v) (hc : w.cell? p = some old) (hf : w.frozen? p = false) :
    Calls Tryz.prog 90 #[.string s, .pointer (some p)] w fun e w' => e = .returned (.bool true) ∧ ∃ w2, Below w.heap.size w w2 ∧ w' = w2.setCell p (.int .i64 v) := by
  obtain ⟨t, h1, h2, v0, v1⟩ := rgs_split h
  have HP : Hid (Calls Tryz.prog 110 #[.string s, .string ⟨#[120]⟩] w fun e w' => e = .returned (.tuple #[.string ⟨t.toArray⟩, .bool true]) ∧ w' = w) := by
    have := Tryz.strings_CutPrefix s ⟨#[120]⟩ w
    have e : (ByteArray.mk #[120]).data.toList = [120] := rfl
    rw [h1, e, (pre_yes t).1, (pre_yes t).2] at this
    exact this
  have hb0 : Below w.heap.size w (nW w) := (Below.refl _ _).alloc (Nat.le_refl _) _
  have hts : (ByteArray.mk t.toArray).size ≤ 281474976710656 := by
    have : s.data.toList.length = s.size := by simp
    rw [h1] at this
    simp at this
    show t.toArray.size ≤ _
    simp; omega
  have HN : Hid (Calls Tryz.prog 91 #[.string ⟨t.toArray⟩, .pointer (some ⟨w.heap.size, 0, none⟩)] (nW w) fun e w' => e = .returned (.bool true) ∧ w'.cell? ⟨w.heap.size, 0, none⟩ = some (.int .i64 v) ∧ Below w.heap.size w w') :=
    (num_yes ⟨t.toArray⟩ ⟨w.heap.size, 0, none⟩ (.int .i64 0) v (nW w) (he.below hb0) hts h2 (by simp) (by simp)).mono fun e w' ⟨a, w2, b1, b2⟩ => by
      have c2 : w2.cell? ⟨w.heap.size, 0, none⟩ = some (.int .i64 0) := by
        rw [b1.cell (p := ⟨w.heap.size, 0, none⟩) (by simp)]; simp
      have hB : Below w.heap.size w w2 := hb0.trans (b1.mono (by simp))
      exact ⟨a, by rw [b2]; exact World.cell?_setCell_same _ _ _ c2, by rw [b2]; exact hB.setCell (p := ⟨w.heap.size, 0, none⟩) (Nat.le_refl _) _⟩
  have HC : Hid (∀ w', Below w.heap.size w w' → w'.cell? p = some old ∧ w'.frozen? p = false) := fun w' hb => by
    have hl := block_lt_of_cell hc
    exact ⟨(hb.cell hl).trans hc, (World.frozen?_of_block (w := w) (hb.block _ hl)).trans hf⟩
  clear h h1 h2 he hc hf hb0 hts hsz
  go_enter Tryz.func90, Tryz.ntmps90
  go_wp2_with (first
    | (go_at_call 110; refine HP.out.mono ?_; rintro e w ⟨rfl, rfl⟩)
    | (go_at_call 91; refine HN.out.mono ?_; rintro e w2 ⟨rfl, hc2, hb2⟩; obtain ⟨hc3, hf3⟩ := HC.out _ hb2; have HB2 : Hid (Below w.heap.size w w2) := hb2; clear hb2)
    | go_in)
  go_ret
  exact ⟨rfl, w2, HB2.out, rfl⟩

set_option maxHeartbeats 2000000 in
theorem reg_no (s : ByteArray) (p : Addr) (w : World) (he : Env w) (hsz : s.size ≤ 281474976710656) (h : rgsV s.data.toList = none) :
    Calls Tryz.prog 90 #[.string s, .pointer (some p)] w fun e w' => e = .returned (.bool false) ∧ Below w.heap.size w w' := by
  have hb0 : Below w.heap.size w (nW w) := (Below.refl _ _).alloc (Nat.le_refl _) _
  have e0 : (ByteArray.mk #[120]).data.toList = [120] := rfl
  by_cases hx : ∃ t, s.data.toList = 120 :: t
  · obtain ⟨t, ht⟩ := hx
    have hts : (ByteArray.mk t.toArray).size ≤ 281474976710656 := by
      have : s.data.toList.length = s.size := by simp
      rw [ht] at this
      simp at this
      show t.toArray.size ≤ _
      simp; omega
    have HP : Hid (Calls Tryz.prog 110 #[.string s, .string ⟨#[120]⟩] w fun e w' => e = .returned (.tuple #[.string ⟨t.toArray⟩, .bool true]) ∧ w' = w) := by
      have := Tryz.strings_CutPrefix s ⟨#[120]⟩ w
      rw [ht, e0, (pre_yes t).1, (pre_yes t).2] at this
      exact this
    cases hn : numV t with
    | none =>
      have HN : Hid (Calls Tryz.prog 91 #[.string ⟨t.toArray⟩, .pointer (some ⟨w.heap.size, 0, none⟩)] (nW w) fun e w' => e = .returned (.bool false) ∧ Below w.heap.size w w') :=
        (num_no ⟨t.toArray⟩ ⟨w.heap.size, 0, none⟩ (nW w) (he.below hb0) hts hn).mono fun e w' ⟨a, b⟩ => ⟨a, hb0.trans (b.mono (by simp))⟩
      clear h he hts hsz hb0 hn ht
      go_enter Tryz.func90, Tryz.ntmps90
      go_wp2_with (first
        | (go_at_call 110; refine HP.out.mono ?_; rintro e w ⟨rfl, rfl⟩)
        | (go_at_call 91; refine HN.out.mono ?_; rintro e w2 ⟨rfl, hb2⟩; have HB2 : Hid (Below w.heap.size w w2) := hb2; clear hb2)
        | go_in)
      go_ret
      exact ⟨rfl, HB2.out⟩
    | some v =>
      have hv : v < 0 ∨ 32 ≤ v := by
        unfold rgsV at h
        rw [ht] at h
        dsimp only at h
        rw [if_pos rfl, hn] at h
        dsimp only at h
        split at h
        · cases h
        · omega
      have HN : Hid (Calls Tryz.prog 91 #[.string ⟨t.toArray⟩, .pointer (some ⟨w.heap.size, 0, none⟩)] (nW w) fun e w' => e = .returned (.bool true) ∧ w'.cell? ⟨w.heap.size, 0, none⟩ = some (.int .i64 v) ∧ Below w.heap.size w w') :=
        (num_yes ⟨t.toArray⟩ ⟨w.heap.size, 0, none⟩ (.int .i64 0) v (nW w) (he.below hb0) hts hn (by simp) (by simp)).mono fun e w' ⟨a, w2, b1, b2⟩ => by
          have c2 : w2.cell? ⟨w.heap.size, 0, none⟩ = some (.int .i64 0) := by
            rw [b1.cell (p := ⟨w.heap.size, 0, none⟩) (by simp)]; simp
          have hB : Below w.heap.size w w2 := hb0.trans (b1.mono (by simp))
          exact ⟨a, by rw [b2]; exact World.cell?_setCell_same _ _ _ c2, by rw [b2]; exact hB.setCell (p := ⟨w.heap.size, 0, none⟩) (Nat.le_refl _) _⟩
      clear h he hts hsz hb0 hn ht
      rcases hv with hv | hv
      · go_enter Tryz.func90, Tryz.ntmps90
        go_wp2_with (first
          | (go_at_call 110; refine HP.out.mono ?_; rintro e w ⟨rfl, rfl⟩)
          | (go_at_call 91; refine HN.out.mono ?_; rintro e w2 ⟨rfl, hc2, hb2⟩; have HB2 : Hid (Below w.heap.size w w2) := hb2; clear hb2)
          | go_in)
        go_ret
        exact ⟨rfl, HB2.out⟩
      · go_enter Tryz.func90, Tryz.ntmps90
        go_wp2_with (first
          | (go_at_call 110; refine HP.out.mono ?_; rintro e w ⟨rfl, rfl⟩)
          | (go_at_call 91; refine HN.out.mono ?_; rintro e w2 ⟨rfl, hc2, hb2⟩; have HB2 : Hid (Below w.heap.size w w2) := hb2; clear hb2)
          | go_in)
        go_ret
        exact ⟨rfl, HB2.out⟩
  · have hp := pre_no s.data.toList (fun t e => hx ⟨t, e⟩)
    have HP : Hid (Calls Tryz.prog 110 #[.string s, .string ⟨#[120]⟩] w fun e w' => ∃ x, e = .returned (.tuple #[.string x, .bool false]) ∧ w' = w) := by
      have := Tryz.strings_CutPrefix s ⟨#[120]⟩ w
      rw [e0, hp] at this
      exact this.mono fun e w' ⟨a, b⟩ => ⟨_, a, b⟩
    clear h he hsz hp
    have HB2 : Hid (Below w.heap.size w (nW w)) := hb0
    clear hb0
    go_enter Tryz.func90, Tryz.ntmps90
    go_wp2_with (first
      | (go_at_call 110; refine HP.out.mono ?_; rintro e w ⟨x, rfl, rfl⟩)
      | go_in)
    go_ret
    exact ⟨rfl, HB2.out⟩
end Go.Proofs.YtjjjdplgdlaihaaGreatDoor

namespace Go.Proofs.YtjjjdplgdlaihaaGreatDoor
open Go Go.RowKit

/-- Of what was there, nothing has turned outside the blocks of S. -/
structure Off (S : Nat → Prop) (w w' : World) : Prop where
  os : w'.os = w.os
  tape : w'.tape = w.tape
  output : w'.output = w.output
  size : w.heap.size ≤ w'.heap.size
  block : ∀ k, k < w.heap.size → ¬ S k → w'.heap[k]? = w.heap[k]?

theorem Off.refl (S : Nat → Prop) (w : World) : Off S w w := ⟨rfl, rfl, rfl, Nat.le_refl _, fun _ _ _ => rfl⟩
theorem Off.trans {S : Nat → Prop} {a b c : World} (h : Off S a b) (k : Off S b c) : Off S a c :=
  ⟨k.os.trans h.os, k.tape.trans h.tape, k.output.trans h.output, Nat.le_trans h.size k.size, fun i hi hs => (k.block i (Nat.lt_of_lt_of_le hi h.size) hs).trans (h.block i hi hs)⟩
/-- Two calls; the second may turn what the first made, too. -/
theorem Off.trans' {S S' : Nat → Prop} {a b c : World} (h : Off S a b) (k : Off S' b c) (hs : ∀ i, i < a.heap.size → S' i → S i) : Off S a c :=
  ⟨k.os.trans h.os, k.tape.trans h.tape, k.output.trans h.output, Nat.le_trans h.size k.size, fun i hi hn => (k.block i (Nat.lt_of_lt_of_le hi h.size) (fun e => hn (hs i hi e))).trans (h.block i hi hn)⟩
theorem Off.mono {S S' : Nat → Prop} {a b : World} (h : Off S a b) (hs : ∀ i, i < a.heap.size → S i → S' i) : Off S' a b :=
  ⟨h.os, h.tape, h.output, h.size, fun i hi hn => h.block i hi (fun e => hn (hs i hi e))⟩
theorem Off.of_below {S : Nat → Prop} {a b : World} (h : Below a.heap.size a b) : Off S a b := ⟨h.os, h.tape, h.output, h.size, fun i hi _ => h.block i hi⟩
theorem Off.below {S : Nat → Prop} {a b : World} (h : Off S a b) {B : Nat} (hB : B ≤ a.heap.size) (hs : ∀ i, i < B → ¬ S i) : Below B a b := ⟨h.os, h.tape, h.output, h.size, fun i hi => h.block i (Nat.lt_of_lt_of_le hi hB) (hs i hi)⟩
theorem Off.drew {S : Nat → Prop} {a w : World} (h : Off S a w) : Off S a w.drew := ⟨h.os, h.tape, h.output, h.size, h.block⟩
theorem Off.drewN {S : Nat → Prop} {a w : World} (h : Off S a w) (n : Nat) : Off S a (w.drewN n) := ⟨h.os, h.tape, h.output, h.size, h.block⟩
theorem Off.alloc {S : Nat → Prop} {a w : World} (h : Off S a w) (o : Obj) : Off S a (w.alloc o) :=
  h.trans ⟨rfl, rfl, rfl, by simp, fun k hk _ => Below.heap_alloc _ _ _ hk⟩
theorem Off.setCell {S : Nat → Prop} {a w : World} (h : Off S a w) {p : Addr} (hp : p.block < a.heap.size → S p.block) (u : Value) : Off S a (w.setCell p u) :=
  ⟨h.os, h.tape, h.output, by simpa [World.setCell] using h.size, fun k hk hn => by
    have hne : k ≠ p.block := fun e => hn (e ▸ hp (e ▸ hk))
    rw [Below.heap_setCell _ _ _ _ hne]; exact h.block k hk hn⟩
theorem Off.cell {S : Nat → Prop} {w w' : World} (h : Off S w w') {p : Addr} (hp : p.block < w.heap.size) (hn : ¬ S p.block) : w'.cell? p = w.cell? p := World.cell?_of_block (w := w) (h.block p.block hp hn)
theorem Off.frozen {S : Nat → Prop} {w w' : World} (h : Off S w w') {p : Addr} (hp : p.block < w.heap.size) (hn : ¬ S p.block) : w'.frozen? p = w.frozen? p := World.frozen?_of_block (w := w) (h.block p.block hp hn)


theorem off_g {w : World} {g : Nat} (a : Nat) (v : Value) : Off (· = g) w (w.setCell ⟨g, a, none⟩ v) := (Off.refl (· = g) w).setCell (p := ⟨g, a, none⟩) (fun _ => rfl) v

theorem ixB_cases (l : By) (c : UInt8) : Lib.indexByte l c = -1 ∨ 0 ≤ Lib.indexByte l c := by
  induction l with
  | nil => exact .inl rfl
  | cons b l ih =>
    rw [Lib.indexByte]
    split
    · right; omega
    · split
      · exact .inl rfl
      · rename_i h
        simp at h
        right
        omega

theorem cut_is (l : By) (c : UInt8) : Lib.cut l [c] = cutC c l := by
  induction l with
  | nil => rfl
  | cons b l ih =>
    unfold Lib.cut at ih ⊢
    rw [Lib.index_one] at ih ⊢
    rw [Lib.indexByte, cutC]
    by_cases hb : b = c
    · have : (b == c) = true := by simp [hb]
      rw [if_pos this, if_pos hb]
      rfl
    · have : ¬ (b == c) = true := by simp [hb]
      rw [if_neg this, if_neg hb, ← ih]
      rcases ixB_cases l c with h | h
      · have h1 : (Lib.indexByte l c == -1) = true := by simp [h]
        rw [if_pos h1, h]
        rfl
      · have h1 : ¬ (Lib.indexByte l c == -1) = true := by simp; omega
        rw [if_neg h1, if_pos (by omega), if_pos h]
        have e : (Lib.indexByte l c + 1).toNat = (Lib.indexByte l c).toNat + 1 := by omega
        rw [e]
        simp

theorem cut_any (s : ByteArray) (c : UInt8) (w : World) (he : Env w) (hs : s.size < 4294967281) :
    Calls Tryz.prog 59 #[.string s, .string ⟨#[c]⟩] w fun e w' => e = .returned (.tuple #[str (cutC c s.data.toList).1, str (cutC c s.data.toList).2.1, .bool (cutC c s.data.toList).2.2]) ∧ ∃ n, w' = w.drewN n := by
  obtain ⟨m, hm⟩ := he.max
  have := Tryz.strings_Cut s ⟨#[c]⟩ m w hs hm
  have e : (ByteArray.mk #[c]).data.toList = [c] := rfl
  rw [e, cut_is] at this
  exact this

theorem suf_yes (l : By) (c : UInt8) (h : l.getLast? = some c) : Lib.hasSuffix l [c] = true ∧ Lib.trimSuffix l [c] = l.dropLast := by
  obtain ⟨t, rfl⟩ : ∃ t, l = t ++ [c] := by
    rw [List.getLast?_eq_some_iff] at h
    exact h
  have h1 : Lib.hasSuffix (t ++ [c]) [c] = true := by
    unfold Lib.hasSuffix
    rw [List.isSuffixOf_iff_suffix]
    exact List.suffix_append t [c]
  refine ⟨h1, ?_⟩
  unfold Lib.trimSuffix
  rw [h1]
  simp
theorem suf_no (l : By) (c : UInt8) (h : l.getLast? ≠ some c) : Lib.hasSuffix l [c] = false := by
  unfold Lib.hasSuffix
  rw [Bool.eq_false_iff]
  intro e
  rw [List.isSuffixOf_iff_suffix] at e
  obtain ⟨t, rfl⟩ := e
  exact h (by simp)

/-- What is kept where nothing below the call's own blocks has turned. -/
theorem TabAt.keep {w w' : World} {o k : Nat} {l m h : Int} {cs : List Value} (ht : TabAt w o k l m h cs) (hb : Below 11 w w') : TabAt w' o k l m h cs := by
  have c0 : ∀ j, w'.cell? ⟨3, j, none⟩ = w.cell? ⟨3, j, none⟩ := fun j => hb.cell (p := ⟨3, j, none⟩) (by simp)
  have hs := hb.size
  exact ⟨Nat.lt_of_lt_of_le ht.z0 hs, Nat.lt_of_lt_of_le ht.z1 hs, (c0 _).trans ht.f0, (c0 _).trans ht.f1, (c0 _).trans ht.f2, (c0 _).trans ht.f3, rangeAt_below ht.rng hb (by omega)⟩
theorem var_keep {w w' : World} {name : String} {cs : Array Value} {g : Nat} (hg : Tryz.prog.globalNamed name = some g) (hl : g < 11) (h : w.var? Tryz.prog name = some cs) (hb : Below 11 w w') : w'.var? Tryz.prog name = some cs := by
  unfold World.var? at *
  simp only [hg, Option.bind_some] at h ⊢
  rw [hb.block g hl]
  exact h
theorem Env.keep {w w' : World} (h : Env w) (hb : Below 11 w w') : Env w' := by
  obtain ⟨m, hm⟩ := h.max
  obtain ⟨t1, p1, h1⟩ := h.syn
  obtain ⟨t2, p2, h2⟩ := h.rng
  exact ⟨fun o a b => (h.tab o a b).keep hb, fun o a b => (hb.cell (p := ⟨1, o * 2, none⟩) (by simp)).trans (h.opn o a b), fun o a b => (hb.cell (p := ⟨1, o * 2 + 1, none⟩) (by simp)).trans (h.opp o a b), var_keep (g := 5) (by kernel_rfl) (by omega) h.pow hb, ⟨m, (hb.cell (p := ⟨6, 0, none⟩) (by simp)).trans hm⟩,
    ⟨t1, p1, var_keep (g := 9) (by kernel_rfl) (by omega) h1 hb⟩, ⟨t2, p2, var_keep (g := 10) (by kernel_rfl) (by omega) h2 hb⟩⟩

/-- A draft in memory. -/
structure DrAt (w : World) (g : Nat) (d : Dr) (ln : Int) : Prop where
  g0 : 11 ≤ g
  c0 : w.cell? ⟨g, 0, none⟩ = some (.int .i64 d.o)
  c1 : w.cell? ⟨g, 1, none⟩ = some (.int .i64 d.d)
  c2 : w.cell? ⟨g, 2, none⟩ = some (.int .i64 d.a)
  c3 : w.cell? ⟨g, 3, none⟩ = some (.int .i64 d.b)
  c4 : w.cell? ⟨g, 4, none⟩ = some (.int .i64 d.n)
  c5 : w.cell? ⟨g, 5, none⟩ = some (str d.pl)
  c6 : w.cell? ⟨g, 6, none⟩ = some (.int .i64 ln)
  fz : ∀ i, w.frozen? ⟨g, i, none⟩ = false

section
variable {w w' : World} {g : Nat} {d : Dr} {ln : Int}
theorem DrAt.lt (h : DrAt w g d ln) : g < w.heap.size := block_lt_of_cell h.c0
theorem DrAt.below (h : DrAt w g d ln) (hb : Below w.heap.size w w') : DrAt w' g d ln := by
  have c : ∀ i, w'.cell? ⟨g, i, none⟩ = w.cell? ⟨g, i, none⟩ := fun i => hb.cell (p := ⟨g, i, none⟩) h.lt
  exact ⟨h.g0, (c _).trans h.c0, (c _).trans h.c1, (c _).trans h.c2, (c _).trans h.c3, (c _).trans h.c4, (c _).trans h.c5, (c _).trans h.c6, fun i => (World.frozen?_of_block (w := w) (hb.block g h.lt)).trans (h.fz i)⟩
theorem other (w : World) (g : Nat) {i k : Nat} (hi : i ≠ k) (v : Value) : (w.setCell ⟨g, k, none⟩ v).cell? ⟨g, i, none⟩ = w.cell? ⟨g, i, none⟩ := World.cell?_setCell_other _ _ _ _ (by intro h; injection h with h1 h2; exact hi h2.symm)
theorem DrAt.setD (h : DrAt w g d ln) (v : Int) : DrAt (w.setCell ⟨g, 1, none⟩ (.int .i64 v)) g { d with d := v } ln :=
  ⟨h.g0, (other w g (by omega) _).trans h.c0, World.cell?_setCell_same _ _ _ h.c1, (other w g (by omega) _).trans h.c2, (other w g (by omega) _).trans h.c3, (other w g (by omega) _).trans h.c4, (other w g (by omega) _).trans h.c5, (other w g (by omega) _).trans h.c6, fun i => by rw [World.frozen?_setCell]; exact h.fz i⟩
theorem DrAt.setA (h : DrAt w g d ln) (v : Int) : DrAt (w.setCell ⟨g, 2, none⟩ (.int .i64 v)) g { d with a := v } ln :=
  ⟨h.g0, (other w g (by omega) _).trans h.c0, (other w g (by omega) _).trans h.c1, World.cell?_setCell_same _ _ _ h.c2, (other w g (by omega) _).trans h.c3, (other w g (by omega) _).trans h.c4, (other w g (by omega) _).trans h.c5, (other w g (by omega) _).trans h.c6, fun i => by rw [World.frozen?_setCell]; exact h.fz i⟩
theorem DrAt.setB (h : DrAt w g d ln) (v : Int) : DrAt (w.setCell ⟨g, 3, none⟩ (.int .i64 v)) g { d with b := v } ln :=
  ⟨h.g0, (other w g (by omega) _).trans h.c0, (other w g (by omega) _).trans h.c1, (other w g (by omega) _).trans h.c2, World.cell?_setCell_same _ _ _ h.c3, (other w g (by omega) _).trans h.c4, (other w g (by omega) _).trans h.c5, (other w g (by omega) _).trans h.c6, fun i => by rw [World.frozen?_setCell]; exact h.fz i⟩
theorem DrAt.setN (h : DrAt w g d ln) (v : Int) : DrAt (w.setCell ⟨g, 4, none⟩ (.int .i64 v)) g { d with n := v } ln :=
  ⟨h.g0, (other w g (by omega) _).trans h.c0, (other w g (by omega) _).trans h.c1, (other w g (by omega) _).trans h.c2, (other w g (by omega) _).trans h.c3, World.cell?_setCell_same _ _ _ h.c4, (other w g (by omega) _).trans h.c5, (other w g (by omega) _).trans h.c6, fun i => by rw [World.frozen?_setCell]; exact h.fz i⟩
theorem DrAt.setP (h : DrAt w g d ln) (v : By) : DrAt (w.setCell ⟨g, 5, none⟩ (str v)) g { d with pl := v } ln :=
  ⟨h.g0, (other w g (by omega) _).trans h.c0, (other w g (by omega) _).trans h.c1, (other w g (by omega) _).trans h.c2, (other w g (by omega) _).trans h.c3, (other w g (by omega) _).trans h.c4, World.cell?_setCell_same _ _ _ h.c5, (other w g (by omega) _).trans h.c6, fun i => by rw [World.frozen?_setCell]; exact h.fz i⟩
end
end Go.Proofs.YtjjjdplgdlaihaaGreatDoor

namespace Go.Proofs.YtjjjdplgdlaihaaGreatDoor
open Go Go.RowKit

theorem off_put {w w2 : World} {g : Nat} (hb : Below w.heap.size w w2) (i : Nat) (v : Value) : Off (· = g) w (w2.setCell ⟨g, i, none⟩ v) := (Off.of_below (S := (· = g)) hb).setCell (p := ⟨g, i, none⟩) (fun _ => rfl) v
theorem Env.off {w w' : World} {g : Nat} (h : Env w) (hg : 11 ≤ g) (hl : g < w.heap.size) (ho : Off (· = g) w w') : Env w' := h.keep (ho.below (by omega) (fun i hi e => by omega))

/-- What take leaves: a draft, perhaps another one, and nothing else has turned. -/
def Took (w : World) (g : Nat) (ln : Int) (r : Option Dr) (e : Ending) (w' : World) : Prop :=
  ∃ d', DrAt w' g d' ln ∧ Off (· = g) w w' ∧ (match r with | some x => e = .returned (.bool true) ∧ d' = x | none => e = .returned (.bool false))

set_option maxHeartbeats 2000000 in
theorem tk_100 (w : World) (g : Nat) (d : Dr) (ln : Int) (p : ByteArray) (h : DrAt w g d ln) (he : Env w) (hs : p.size < 4294967281) :
    Calls Tryz.prog 63 #[.pointer (some ⟨g, 0, none⟩), .int .u8 100, .string p] w fun e w' => Took w g ln (takeV 100 p.data.toList d) e w' := by
  have et : takeV 100 p.data.toList d = (rgsV p.data.toList).map fun r => { d with d := r } := by unfold takeV; rw [if_pos rfl]
  rw [et]
  cases hv : rgsV p.data.toList with
  | some v =>
    have HR : Hid (Calls Tryz.prog 90 #[.string p, .pointer (some ⟨g, 1, none⟩)] w fun e w' => e = .returned (.bool true) ∧ DrAt w' g { d with d := v } ln ∧ Off (· = g) w w') :=
      (reg_yes p ⟨g, 1, none⟩ _ v w he (by omega) hv h.c1 (h.fz _)).mono fun e w' ⟨a, w2, b1, b2⟩ => ⟨a, by rw [b2]; exact (h.below b1).setD v, by rw [b2]; exact off_put b1 _ _⟩
    clear h he hs hv et
    go_enter Tryz.func63, Tryz.ntmps63
    go_wp2_with (go_at_call 90; refine HR.out.mono ?_; rintro e w' ⟨rfl, hd, ho⟩; have HD : Hid (DrAt w' g { d with d := v } ln) := hd; have HO : Hid (Off (· = g) w w') := ho; clear hd ho)
    go_ret
    exact ⟨_, HD.out, HO.out, rfl, rfl⟩
  | none =>
    have HR : Hid (Calls Tryz.prog 90 #[.string p, .pointer (some ⟨g, 1, none⟩)] w fun e w' => e = .returned (.bool false) ∧ DrAt w' g d ln ∧ Off (· = g) w w') :=
      (reg_no p ⟨g, 1, none⟩ w he (by omega) hv).mono fun e w' ⟨a, b⟩ => ⟨a, h.below b, Off.of_below b⟩
    clear h he hs hv et
    go_enter Tryz.func63, Tryz.ntmps63
    go_wp2_with (go_at_call 90; refine HR.out.mono ?_; rintro e w' ⟨rfl, hd, ho⟩; have HD : Hid (DrAt w' g d ln) := hd; have HO : Hid (Off (· = g) w w') := ho; clear hd ho)
    go_ret
    exact ⟨_, HD.out, HO.out, rfl⟩

set_option maxHeartbeats 2000000 in
theorem tk_97 (w : World) (g : Nat) (d : Dr) (ln : Int) (p : ByteArray) (h : DrAt w g d ln) (he : Env w) (hs : p.size < 4294967281) :
    Calls Tryz.prog 63 #[.pointer (some ⟨g, 0, none⟩), .int .u8 97, .string p] w fun e w' => Took w g ln (takeV 97 p.data.toList d) e w' := by
  have et : takeV 97 p.data.toList d = (rgsV p.data.toList).map fun r => { d with a := r } := by unfold takeV; rw [if_neg (by decide), if_pos rfl]
  rw [et]
  cases hv : rgsV p.data.toList with
  | some v =>
    have HR : Hid (Calls Tryz.prog 90 #[.string p, .pointer (some ⟨g, 2, none⟩)] w fun e w' => e = .returned (.bool true) ∧ DrAt w' g { d with a := v } ln ∧ Off (· = g) w w') :=
      (reg_yes p ⟨g, 2, none⟩ _ v w he (by omega) hv h.c2 (h.fz _)).mono fun e w' ⟨a, w2, b1, b2⟩ => ⟨a, by rw [b2]; exact (h.below b1).setA v, by rw [b2]; exact off_put b1 _ _⟩
    clear h he hs hv et
    go_enter Tryz.func63, Tryz.ntmps63
    go_wp2_with (go_at_call 90; refine HR.out.mono ?_; rintro e w' ⟨rfl, hd, ho⟩; have HD : Hid (DrAt w' g { d with a := v } ln) := hd; have HO : Hid (Off (· = g) w w') := ho; clear hd ho)
    go_ret
    exact ⟨_, HD.out, HO.out, rfl, rfl⟩
  | none =>
    have HR : Hid (Calls Tryz.prog 90 #[.string p, .pointer (some ⟨g, 2, none⟩)] w fun e w' => e = .returned (.bool false) ∧ DrAt w' g d ln ∧ Off (· = g) w w') :=
      (reg_no p ⟨g, 2, none⟩ w he (by omega) hv).mono fun e w' ⟨a, b⟩ => ⟨a, h.below b, Off.of_below b⟩
    clear h he hs hv et
    go_enter Tryz.func63, Tryz.ntmps63
    go_wp2_with (go_at_call 90; refine HR.out.mono ?_; rintro e w' ⟨rfl, hd, ho⟩; have HD : Hid (DrAt w' g d ln) := hd; have HO : Hid (Off (· = g) w w') := ho; clear hd ho)
    go_ret
    exact ⟨_, HD.out, HO.out, rfl⟩

set_option maxHeartbeats 2000000 in
theorem tk_98 (w : World) (g : Nat) (d : Dr) (ln : Int) (p : ByteArray) (h : DrAt w g d ln) (he : Env w) (hs : p.size < 4294967281) :
    Calls Tryz.prog 63 #[.pointer (some ⟨g, 0, none⟩), .int .u8 98, .string p] w fun e w' => Took w g ln (takeV 98 p.data.toList d) e w' := by
  have et : takeV 98 p.data.toList d = (rgsV p.data.toList).map fun r => { d with b := r } := by unfold takeV; rw [if_neg (by decide), if_neg (by decide), if_pos rfl]
  rw [et]
  cases hv : rgsV p.data.toList with
  | some v =>
    have HR : Hid (Calls Tryz.prog 90 #[.string p, .pointer (some ⟨g, 3, none⟩)] w fun e w' => e = .returned (.bool true) ∧ DrAt w' g { d with b := v } ln ∧ Off (· = g) w w') :=
      (reg_yes p ⟨g, 3, none⟩ _ v w he (by omega) hv h.c3 (h.fz _)).mono fun e w' ⟨a, w2, b1, b2⟩ => ⟨a, by rw [b2]; exact (h.below b1).setB v, by rw [b2]; exact off_put b1 _ _⟩
    clear h he hs hv et
    go_enter Tryz.func63, Tryz.ntmps63
    go_wp2_with (go_at_call 90; refine HR.out.mono ?_; rintro e w' ⟨rfl, hd, ho⟩; have HD : Hid (DrAt w' g { d with b := v } ln) := hd; have HO : Hid (Off (· = g) w w') := ho; clear hd ho)
    go_ret
    exact ⟨_, HD.out, HO.out, rfl, rfl⟩
  | none =>
    have HR : Hid (Calls Tryz.prog 90 #[.string p, .pointer (some ⟨g, 3, none⟩)] w fun e w' => e = .returned (.bool false) ∧ DrAt w' g d ln ∧ Off (· = g) w w') :=
      (reg_no p ⟨g, 3, none⟩ w he (by omega) hv).mono fun e w' ⟨a, b⟩ => ⟨a, h.below b, Off.of_below b⟩
    clear h he hs hv et
    go_enter Tryz.func63, Tryz.ntmps63
    go_wp2_with (go_at_call 90; refine HR.out.mono ?_; rintro e w' ⟨rfl, hd, ho⟩; have HD : Hid (DrAt w' g d ln) := hd; have HO : Hid (Off (· = g) w w') := ho; clear hd ho)
    go_ret
    exact ⟨_, HD.out, HO.out, rfl⟩

set_option maxHeartbeats 2000000 in
theorem tk_110 (w : World) (g : Nat) (d : Dr) (ln : Int) (p : ByteArray) (h : DrAt w g d ln) (he : Env w) (hs : p.size < 4294967281) :
    Calls Tryz.prog 63 #[.pointer (some ⟨g, 0, none⟩), .int .u8 110, .string p] w fun e w' => Took w g ln (takeV 110 p.data.toList d) e w' := by
  have et : takeV 110 p.data.toList d = (numV p.data.toList).map fun n => { d with n := n } := by unfold takeV; rw [if_neg (by decide), if_neg (by decide), if_neg (by decide), if_neg (by decide), if_neg (by simp)]
  rw [et]
  · skip
    cases hv : numV p.data.toList with
    | some v =>
      have HR : Hid (Calls Tryz.prog 91 #[.string p, .pointer (some ⟨g, 4, none⟩)] w fun e w' => e = .returned (.bool true) ∧ DrAt w' g { d with n := v } ln ∧ Off (· = g) w w') :=
        (num_yes p ⟨g, 4, none⟩ _ v w he (by omega) hv h.c4 (h.fz _)).mono fun e w' ⟨a, w2, b1, b2⟩ => ⟨a, by rw [b2]; exact (h.below b1).setN v, by rw [b2]; exact off_put b1 _ _⟩
      clear h he hs hv et
      go_enter Tryz.func63, Tryz.ntmps63
      go_wp2_with (first | (go_at_call 91; refine HR.out.mono ?_; rintro e w' ⟨rfl, hd, ho⟩; have HD : Hid (DrAt w' g { d with n := v } ln) := hd; have HO : Hid (Off (· = g) w w') := ho; clear hd ho) | go_in)
      go_ret
      exact ⟨_, HD.out, HO.out, rfl, rfl⟩
    | none =>
      have HR : Hid (Calls Tryz.prog 91 #[.string p, .pointer (some ⟨g, 4, none⟩)] w fun e w' => e = .returned (.bool false) ∧ DrAt w' g d ln ∧ Off (· = g) w w') :=
        (num_no p ⟨g, 4, none⟩ w he (by omega) hv).mono fun e w' ⟨a, b⟩ => ⟨a, h.below b, Off.of_below b⟩
      clear h he hs hv et
      go_enter Tryz.func63, Tryz.ntmps63
      go_wp2_with (first | (go_at_call 91; refine HR.out.mono ?_; rintro e w' ⟨rfl, hd, ho⟩; have HD : Hid (DrAt w' g d ln) := hd; have HO : Hid (Off (· = g) w w') := ho; clear hd ho) | go_in)
      go_ret
      exact ⟨_, HD.out, HO.out, rfl⟩

set_option maxHeartbeats 2000000 in
theorem tk_58 (w : World) (g : Nat) (d : Dr) (ln : Int) (p : ByteArray) (h : DrAt w g d ln) (he : Env w) (hs : p.size < 4294967281) :
    Calls Tryz.prog 63 #[.pointer (some ⟨g, 0, none⟩), .int .u8 58, .string p] w fun e w' => Took w g ln (takeV 58 p.data.toList d) e w' := by
  have HN : Hid (∀ w, Calls Tryz.prog 9 #[.string p] w fun e w' => e = .returned (.bool (nameV p.data.toList)) ∧ w' = w) := fun w => name_any p w (by omega)
  cases hnm : nameV p.data.toList with
  | true =>
    have et : takeV 58 p.data.toList d = some { d with pl := p.data.toList } := by unfold takeV; rw [if_neg (by decide), if_neg (by decide), if_neg (by decide), if_neg (by decide), if_pos ⟨rfl, hnm⟩]
    rw [et]
    rw [hnm] at HN
    have c5 := h.c5
    have f5 := h.fz 5
    have HD : Hid (DrAt (w.setCell ⟨g, 5, none⟩ (.string p)) g { d with pl := p.data.toList } ln) := h.setP p.data.toList
    clear h he hs hnm et
    go_enter Tryz.func63, Tryz.ntmps63
    go_wp2_with (go_at_call 9; refine (HN.out _).mono ?_; rintro e w ⟨rfl, rfl⟩)
    go_ret
    exact ⟨_, HD.out, off_g _ _, rfl, rfl⟩
  | false =>
    have et : takeV 58 p.data.toList d = (numV p.data.toList).map fun n => { d with n := n } := by unfold takeV; rw [if_neg (by decide), if_neg (by decide), if_neg (by decide), if_neg (by decide), if_neg (by simp [hnm])]
    rw [et]
    rw [hnm] at HN
    clear hnm
    cases hv : numV p.data.toList with
    | some v =>
      have HR : Hid (Calls Tryz.prog 91 #[.string p, .pointer (some ⟨g, 4, none⟩)] w fun e w' => e = .returned (.bool true) ∧ DrAt w' g { d with n := v } ln ∧ Off (· = g) w w') :=
        (num_yes p ⟨g, 4, none⟩ _ v w he (by omega) hv h.c4 (h.fz _)).mono fun e w' ⟨a, w2, b1, b2⟩ => ⟨a, by rw [b2]; exact (h.below b1).setN v, by rw [b2]; exact off_put b1 _ _⟩
      clear h he hs hv et
      go_enter Tryz.func63, Tryz.ntmps63
      go_wp2_with (first | (go_at_call 91; refine HR.out.mono ?_; rintro e w' ⟨rfl, hd, ho⟩; have HD : Hid (DrAt w' g { d with n := v } ln) := hd; have HO : Hid (Off (· = g) w w') := ho; clear hd ho) | (go_at_call 9; refine (HN.out _).mono ?_; rintro e w ⟨rfl, rfl⟩) | go_in)
      go_ret
      exact ⟨_, HD.out, HO.out, rfl, rfl⟩
    | none =>
      have HR : Hid (Calls Tryz.prog 91 #[.string p, .pointer (some ⟨g, 4, none⟩)] w fun e w' => e = .returned (.bool false) ∧ DrAt w' g d ln ∧ Off (· = g) w w') :=
        (num_no p ⟨g, 4, none⟩ w he (by omega) hv).mono fun e w' ⟨a, b⟩ => ⟨a, h.below b, Off.of_below b⟩
      clear h he hs hv et
      go_enter Tryz.func63, Tryz.ntmps63
      go_wp2_with (first | (go_at_call 91; refine HR.out.mono ?_; rintro e w' ⟨rfl, hd, ho⟩; have HD : Hid (DrAt w' g d ln) := hd; have HO : Hid (Off (· = g) w w') := ho; clear hd ho) | (go_at_call 9; refine (HN.out _).mono ?_; rintro e w ⟨rfl, rfl⟩) | go_in)
      go_ret
      exact ⟨_, HD.out, HO.out, rfl⟩
end Go.Proofs.YtjjjdplgdlaihaaGreatDoor

namespace Go.Proofs.YtjjjdplgdlaihaaGreatDoor
open Go Go.RowKit

theorem str_size (l : By) : (ByteArray.mk l.toArray).size = l.length := by show l.toArray.size = _; simp
theorem str_data (l : By) : (ByteArray.mk l.toArray).data.toList = l := rfl
theorem cutC_len (c : UInt8) : ∀ l : By, (cutC c l).1.length ≤ l.length ∧ (cutC c l).2.1.length ≤ l.length
  | [] => by simp [cutC]
  | x :: t => by
    have := cutC_len c t
    rw [cutC]
    split
    · simp
    · simp; omega

set_option maxHeartbeats 4000000 in
theorem tk_40 (w : World) (g : Nat) (d : Dr) (ln : Int) (p : ByteArray) (h : DrAt w g d ln) (he : Env w) (hs : p.size < 4294967281) :
    Calls Tryz.prog 63 #[.pointer (some ⟨g, 0, none⟩), .int .u8 40, .string p] w fun e w' => Took w g ln (takeV 40 p.data.toList d) e w' := by
  have hpl : p.data.toList.length = p.size := by simp
  have hcl := cutC_len 40 p.data.toList
  have et : takeV 40 p.data.toList d = memV (cutC 40 p.data.toList).1 (cutC 40 p.data.toList).2.1 d := by unfold takeV; rw [if_neg (by decide), if_neg (by decide), if_neg (by decide), if_pos rfl]
  rw [et]
  clear et
  have HC : Hid (Calls Tryz.prog 59 #[.string p, .string ⟨#[40]⟩] w fun e w' => e = .returned (.tuple #[str (cutC 40 p.data.toList).1, str (cutC 40 p.data.toList).2.1, .bool (cutC 40 p.data.toList).2.2]) ∧ Below w.heap.size w w') :=
    (cut_any p 40 w he hs).mono fun e w' ⟨a, n, b⟩ => ⟨a, by rw [b]; exact below_drewN (Below.refl _ _) _⟩
  rw [hpl] at hcl
  generalize (cutC 40 p.data.toList).1 = n at *
  generalize (cutC 40 p.data.toList).2.1 = bh at *
  generalize (cutC 40 p.data.toList).2.2 = mo at *
  have e41 : (ByteArray.mk #[41]).data.toList = [41] := rfl
  have HD0 : Hid (∀ w', Below w.heap.size w w' → DrAt w' g d ln ∧ Off (· = g) w w') := fun w' hb => ⟨h.below hb, Off.of_below hb⟩
  by_cases hl : bh.getLast? = some 41
  · have HS : Hid (∀ w, Calls Tryz.prog 25 #[str bh, .string ⟨#[41]⟩] w fun e w' => e = .returned (.tuple #[str bh.dropLast, .bool true]) ∧ w' = w) := fun w => by
      have := Tryz.strings_CutSuffix ⟨bh.toArray⟩ ⟨#[41]⟩ w (by rw [str_size]; omega)
      rw [e41, str_data, (suf_yes bh 41 hl).1, (suf_yes bh 41 hl).2] at this
      exact this
    cases hv : numV n with
    | none =>
      rw [memV_none hl hv]
      have HN : Hid (∀ w', Below w.heap.size w w' → Calls Tryz.prog 91 #[str n, .pointer (some ⟨g, 4, none⟩)] w' fun e w'' => e = .returned (.bool false) ∧ DrAt w'' g d ln ∧ Off (· = g) w w'') := fun w' hb =>
        (num_no ⟨n.toArray⟩ ⟨g, 4, none⟩ w' (he.below hb) (by rw [str_size]; omega) hv).mono fun e w'' ⟨a, b⟩ => ⟨a, HD0.out _ (hb.trans (b.mono hb.size))⟩
      clear h he hs hv hpl hcl hl HD0
      go_enter Tryz.func63, Tryz.ntmps63
      go_wp2_with (first
        | (go_at_call 59; refine HC.out.mono ?_; rintro e w1 ⟨rfl, hb⟩; have HB : Hid (Below w.heap.size w w1) := hb; clear hb)
        | (go_at_call 25; refine (HS.out _).mono ?_; rintro e w1 ⟨rfl, rfl⟩)
        | (go_at_call 91; refine (HN.out _ HB.out).mono ?_; rintro e w2 ⟨rfl, hd, ho⟩; have HD : Hid (DrAt w2 g d ln) := hd; have HO : Hid (Off (· = g) w w2) := ho; clear hd ho)
        | go_in)
      go_ret
      exact ⟨_, HD.out, HO.out, rfl⟩
    | some v =>
      rw [memV_some hl hv]
      have HN : Hid (∀ w', Below w.heap.size w w' → Calls Tryz.prog 91 #[str n, .pointer (some ⟨g, 4, none⟩)] w' fun e w'' => e = .returned (.bool true) ∧ DrAt w'' g { d with n := v } ln ∧ Off (· = g) w w'') := fun w' hb =>
        (num_yes ⟨n.toArray⟩ ⟨g, 4, none⟩ _ v w' (he.below hb) (by rw [str_size]; omega) hv (h.below hb).c4 ((h.below hb).fz _)).mono fun e w'' ⟨a, w2, b1, b2⟩ => ⟨a, by rw [b2]; exact ((h.below hb).below b1).setN v, by rw [b2]; exact off_put (hb.trans (b1.mono hb.size)) _ _⟩
      have hdl : bh.dropLast.length ≤ bh.length := by simp
      have hlt := h.lt
      have hg0 := h.g0
      cases hr : rgsV bh.dropLast with
      | none =>
        have HR : Hid (∀ w', DrAt w' g { d with n := v } ln → Off (· = g) w w' → Calls Tryz.prog 90 #[str bh.dropLast, .pointer (some ⟨g, 2, none⟩)] w' fun e w'' => e = .returned (.bool false) ∧ DrAt w'' g { d with n := v } ln ∧ Off (· = g) w w'') := fun w' hd ho =>
          (reg_no ⟨bh.dropLast.toArray⟩ ⟨g, 2, none⟩ w' (he.off hg0 hlt ho) (by rw [str_size]; omega) hr).mono fun e w'' ⟨a, b⟩ => ⟨a, hd.below b, ho.trans (Off.of_below b)⟩
        clear h he hs hv hpl hcl hl HD0 hr hdl hlt hg0
        go_enter Tryz.func63, Tryz.ntmps63
        go_wp2_with (first
          | (go_at_call 59; refine HC.out.mono ?_; rintro e w1 ⟨rfl, hb⟩; have HB : Hid (Below w.heap.size w w1) := hb; clear hb)
          | (go_at_call 25; refine (HS.out _).mono ?_; rintro e w1 ⟨rfl, rfl⟩)
          | (go_at_call 91; refine (HN.out _ HB.out).mono ?_; rintro e w2 ⟨rfl, hd, ho⟩; have HD : Hid (DrAt w2 g { d with n := v } ln) := hd; have HO : Hid (Off (· = g) w w2) := ho; clear hd ho)
          | (go_at_call 90; refine (HR.out _ HD.out HO.out).mono ?_; rintro e w3 ⟨rfl, hd, ho⟩; have HD3 : Hid (DrAt w3 g { d with n := v } ln) := hd; have HO3 : Hid (Off (· = g) w w3) := ho; clear hd ho)
          | go_in)
        go_ret
        exact ⟨_, HD3.out, HO3.out, rfl⟩
      | some r =>
        have HR : Hid (∀ w', DrAt w' g { d with n := v } ln → Off (· = g) w w' → Calls Tryz.prog 90 #[str bh.dropLast, .pointer (some ⟨g, 2, none⟩)] w' fun e w'' => e = .returned (.bool true) ∧ DrAt w'' g { d with n := v, a := r } ln ∧ Off (· = g) w w'') := fun w' hd ho =>
          (reg_yes ⟨bh.dropLast.toArray⟩ ⟨g, 2, none⟩ _ r w' (he.off hg0 hlt ho) (by rw [str_size]; omega) hr hd.c2 (hd.fz _)).mono fun e w'' ⟨a, w2, b1, b2⟩ => ⟨a, by rw [b2]; exact (hd.below b1).setA r, by rw [b2]; exact ho.trans (off_put b1 _ _)⟩
        clear h he hs hv hpl hcl hl HD0 hr hdl hlt hg0
        go_enter Tryz.func63, Tryz.ntmps63
        go_wp2_with (first
          | (go_at_call 59; refine HC.out.mono ?_; rintro e w1 ⟨rfl, hb⟩; have HB : Hid (Below w.heap.size w w1) := hb; clear hb)
          | (go_at_call 25; refine (HS.out _).mono ?_; rintro e w1 ⟨rfl, rfl⟩)
          | (go_at_call 91; refine (HN.out _ HB.out).mono ?_; rintro e w2 ⟨rfl, hd, ho⟩; have HD : Hid (DrAt w2 g { d with n := v } ln) := hd; have HO : Hid (Off (· = g) w w2) := ho; clear hd ho)
          | (go_at_call 90; refine (HR.out _ HD.out HO.out).mono ?_; rintro e w3 ⟨rfl, hd, ho⟩; have HD3 : Hid (DrAt w3 g { d with n := v, a := r } ln) := hd; have HO3 : Hid (Off (· = g) w w3) := ho; clear hd ho)
          | go_in)
        go_ret
        exact ⟨_, HD3.out, HO3.out, rfl, rfl⟩
  · rw [memV_no hl]
    have HS : Hid (∀ w, Calls Tryz.prog 25 #[str bh, .string ⟨#[41]⟩] w fun e w' => ∃ x, e = .returned (.tuple #[.string x, .bool false]) ∧ w' = w) := fun w => by
      have := Tryz.strings_CutSuffix ⟨bh.toArray⟩ ⟨#[41]⟩ w (by rw [str_size]; omega)
      rw [e41, str_data, suf_no bh 41 hl] at this
      exact this.mono fun e w' ⟨a, b⟩ => ⟨_, a, b⟩
    clear h he hs hpl hcl hl
    go_enter Tryz.func63, Tryz.ntmps63
    go_wp2_with (first
      | (go_at_call 59; refine HC.out.mono ?_; rintro e w1 ⟨rfl, hb⟩; have HB : Hid (Below w.heap.size w w1) := hb; clear hb)
      | (go_at_call 25; refine (HS.out _).mono ?_; rintro e w1 ⟨x, rfl, rfl⟩)
      | go_in)
    go_ret
    exact ⟨_, (HD0.out _ HB.out).1, (HD0.out _ HB.out).2, rfl⟩

/-- take, at each kind of part that there is. -/
theorem take_all (w : World) (g : Nat) (d : Dr) (ln : Int) (k : UInt8) (hk : kindOk k = true) (p : ByteArray) (h : DrAt w g d ln) (he : Env w) (hs : p.size < 4294967281) :
    Calls Tryz.prog 63 #[.pointer (some ⟨g, 0, none⟩), .int .u8 (k.toNat : Int), .string p] w fun e w' => Took w g ln (takeV k p.data.toList d) e w' := by
  simp only [kindOk, Bool.or_eq_true, beq_iff_eq] at hk
  rcases hk with ((((rfl | rfl) | rfl) | rfl) | rfl) | rfl
  · exact tk_100 w g d ln p h he hs
  · exact tk_97 w g d ln p h he hs
  · exact tk_98 w g d ln p h he hs
  · exact tk_40 w g d ln p h he hs
  · exact tk_58 w g d ln p h he hs
  · exact tk_110 w g d ln p h he hs
end Go.Proofs.YtjjjdplgdlaihaaGreatDoor
