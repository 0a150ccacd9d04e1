/- LE LF LG -/
import Derived.Test.YtnfhpdbbfejioaaGreatDoorE26
namespace Go.Proofs.YtnfhpdbbfejioaaGreatDoor.Mid
set_option linter.unusedVariables false
set_option linter.unusedSimpArgs false
set_option maxRecDepth 100000
set_option maxHeartbeats 16000000
open Go Go.RowKit
theorem add_at0 (g k : Nat) : (⟨g, 0, none⟩ : Addr).add k = ⟨g, k, none⟩ := by unfold Addr.add; split <;> simp_all
abbrev Lo (C : Nat) : Nat → Prop := fun b => b < C
abbrev ndk (k1 k2 k3 : IntKind) (c a n : Int) (nm op : By) (l r g : Tr) : Tr := .agg [.lit (.int k1 c), .lit (.int k2 a), .lit (.int k3 n), .lit (.string nm), .lit (.string op), l, r, g]
structure NdW (w : World) (b : Nat) (c a n : Int) (yn yo : ByteArray) (vl vr vg : Value) : Prop where
  c0 : w.cell? ⟨b, 0, none⟩ = some (.int .i64 c)
  c2 : w.cell? ⟨b, 2, none⟩ = some (.int .i64 n)
  c3 : w.cell? ⟨b, 3, none⟩ = some (.string yn)
  c4 : w.cell? ⟨b, 4, none⟩ = some (.string yo)
  c5 : w.cell? ⟨b, 5, none⟩ = some vl
  c6 : w.cell? ⟨b, 6, none⟩ = some vr
  c7 : w.cell? ⟨b, 7, none⟩ = some vg
theorem ndx {P : Nat} {w : World} {k1 k2 k3 : IntKind} {c a n : Int} {nm op : By} {l r g : Tr} {v : Value} (h : ExAt (Lo (P - 1)) w (ndk k1 k2 k3 c a n nm op l r g) v) :
    ∃ (b : Nat) (vl vr vg : Value) (ys : List Value), b < P - 1 ∧ v = ptr b ∧ (∀ W, Below (P - 1) w W → NdW W b c a n ⟨nm.toArray⟩ ⟨op.toArray⟩ vl vr vg ∧ ExAt (Lo (P - 1)) W l vl ∧ ExAt (Lo (P - 1)) W r vr ∧ W.ownsRow 0 145 1 vg ys.length ys ∧ ExAt (Lo (P - 1)) W g (.tuple ys.toArray)) ∧ (∀ i, vg.ownBlock = some i → i < P - 1) := by
  rw [ExAt] at h
  obtain ⟨b, vl, vr, vg, ys, hb, e1, e2, e3, e4, e5, e7, e6⟩ := h
  refine ⟨b, vl, vr, vg, ys, hb, e1, fun W hW => ?_, e7⟩
  have hk : Keeps (Lo (P - 1)) w W := fun b cs t hb _ hc => by rw [hW.block b hb]; exact hc
  have hc : W.heap[b]? = _ := (hW.block b hb).trans e2
  exact ⟨⟨z_ (i := 0) hc rfl, z_ (i := 2) hc rfl, z_ (i := 3) hc rfl, z_ (i := 4) hc rfl, z_ (i := 5) hc rfl, z_ (i := 6) hc rfl, z_ (i := 7) hc rfl⟩, hk.ex e3, hk.ex e4, hk.row (by decide) e5 e7, hk.ex e6⟩
def LsP (P : Nat) (R : Nat → Nat) (mb : Nat) (w : World) (x : Ms) (s' : Wr) (e : Ending) (w' : World) : Prop :=
  ∃ qa na ca, e = .returned (.agg #[.int .i64 x.code, .int .i64 x.dst, .int .i64 x.a, .int .i64 x.b, .int .i64 x.c, .int .i64 x.n, .string ⟨x.op.toArray⟩, .int .i64 x.label, .string ⟨x.name.toArray⟩, .slice qa na ca]) ∧ ∃ R', WrM R' w' P mb s' ∧ Lw P R R' w w' ∧ ArAt R' w' (.slice qa na ca) x.args
def VaC (V : Tr → Lm Nat) : Prop := ∀ (R : Nat → Nat) (w : World) (P mb : Nat) (s s' : Wr) (t : Tr) (v : Value) (p : Nat), WrM R w P mb s → ExAt (Lo (P - 1)) w t v → V t s = some (p, s') → Calls Tryz.prog 163 #[ptr P, v] w (LnP P R mb w (p : Int) s')
def LaC (n : FuncId) (L : Tr → Lm Ms) : Prop := ∀ (R : Nat → Nat) (w : World) (P mb : Nat) (s s' : Wr) (t : Tr) (v : Value) (x : Ms), WrM R w P mb s → ExAt (Lo (P - 1)) w t v → L t s = some (x, s') → Calls Tryz.prog n #[ptr P, v] w (LsP P R mb w x s')
def UnC (n : FuncId) (U : Tr → Nat → Lm Unit) : Prop := ∀ (R : Nat → Nat) (w : World) (P mb : Nat) (s s' : Wr) (t : Tr) (v : Value) (e : Nat) (u : Unit), WrM R w P mb s → ExAt (Lo (P - 1)) w t v → U t e s = some (u, s') → Calls Tryz.prog n #[ptr P, v, .int .i64 (e : Int)] w (LuP P R mb w s')
theorem und92 : Tryz.prog.underlying 92 = some (.map 9 3) := Tryz.underlying92
theorem Wc.name {R : Nat → Nat} {w : World} {P mb : Nat} {tv sv v1 v2 : Value} {s : Wr} (h : Wc R w P mb tv sv v1 v2 s) (nm : By) (hl : nm.length ≤ 1000000) (W : World) (hW : W.heap[mb]? = w.heap[mb]?) : (Instr.lookup 92 (.map (some mb)) (.string ⟨nm.toArray⟩) false).run Tryz.prog W = .ok (.int .i64 (nmG s.nm nm : Int)) W := by
  obtain ⟨n, m1, m2⟩ := h.m
  have hk : keyOf Tryz.prog 9 (.string ⟨nm.toArray⟩) = some (.string nm) := by
    have := key_s ⟨nm.toArray⟩ (by simp [ByteArray.size]; omega)
    simpa using this
  have := (m1.kept hW).look kdS und92 (zero3 W) hk
  rw [this]
  show Result.ok (((s.nm.lookup nm).map fun (p : Nat) => Value.int .i64 (p : Int)).getD (.int .i64 0)) W = .ok (.int .i64 (((s.nm.lookup nm).getD 0 : Nat) : Int)) W
  cases s.nm.lookup nm <;> rfl
theorem kindL_some {c : Int} {nm : By} {s s' : Wr} {k : Int} (h : kindL c nm s = some (k, s')) : s' = s ∧ ((c = 2 ∧ nm.length ≤ 1000 ∧ s.ts[nmG s.nm nm]? = some k) ∨ (c ≠ 2 ∧ k = if c = 6 then 2 else 1)) := by
  unfold kindL at h
  split at h
  · rename_i hc
    split at h
    · rename_i hn
      split at h
      · rename_i hk
        injection h with h
        injection h with h1 h2
        subst h1
        exact ⟨h2.symm, .inl ⟨hc, hn, hk⟩⟩
      · cases h
    · cases h
  · rename_i hc
    injection h with h
    injection h with h1 h2
    exact ⟨h2.symm, .inr ⟨hc, h1.symm⟩⟩
theorem kind_any {R : Nat → Nat} {w : World} {P mb : Nat} {s s' : Wr} {k1 k2 k3 : IntKind} {c a n : Int} {nm op : By} {l r g : Tr} {v : Value} {k : Int} (h : WrM R w P mb s) (hx : ExAt (Lo (P - 1)) w (ndk k1 k2 k3 c a n nm op l r g) v) (hk : kindL c nm s = some (k, s')) :
    Calls Tryz.prog 161 #[ptr P, v] w (LnP P R mb w k s') := by
  obtain ⟨rfl, hc⟩ := kindL_some hk
  obtain ⟨b, vl, vr, vg, ys, hb, rfl, hw, ho⟩ := ndx hx
  obtain ⟨hN, -⟩ := hw w (Below.refl _ _)
  have HH : Hid (∀ W, (∀ b, b < w.heap.size → W.heap[b]? = w.heap[b]?) → Below (P - 1) w W → WrM R W P mb s' ∧ Lw P R R w W) := fun W h1 h2 => ⟨h.on h1 h2, h2, fun _ _ => rfl, fun b hb _ => h1 b hb⟩
  obtain ⟨tv, sv, v1, v2, h⟩ := h
  have hd : ∀ b, b < w.heap.size → w.drew.heap[b]? = w.heap[b]? := fun _ _ => rfl
  obtain ⟨q, cq, rfl⟩ := zd h.t
  have d0 : w.cell? ⟨P, 0, none⟩ = some (.slice q s'.ts.length cq) := z_ (i := 0) h.blk rfl
  have d2 : w.cell? ⟨P, 2, none⟩ = some (.map (some mb)) := z_ (i := 2) h.blk rfl
  have c0 := hN.c0
  have c3 := hN.c3
  have HX : Hid (LnP P R mb w k s' (.returned (.int .i64 k)) w) := by
    obtain ⟨a1, a2⟩ := HH.out w (fun _ _ => rfl) (Below.refl _ _)
    exact ⟨rfl, R, a1, a2⟩
  have HY : Hid (LnP P R mb w k s' (.returned (.int .i64 k)) w.drew) := by
    obtain ⟨a1, a2⟩ := HH.out w.drew (fun _ _ => rfl) (zl _ _)
    exact ⟨rfl, R, a1, a2⟩
  rcases hc with ⟨rfl, hnm, hk9⟩ | ⟨hc, rfl⟩
  · have hlk := h.name nm (by omega) w.drew rfl
    have hlt := (List.getElem?_eq_some_iff.1 hk9).1
    obtain ⟨g1, c1, e, -, -⟩ := h.t.form (by omega)
    injection e with e1 e2 e3
    subst e1
    have d1 : w.cell? ⟨g1, nmG s'.nm nm, none⟩ = some (.int .i64 k) := by
      have := h.t.cells (g := g1) rfl (nmG s'.nm nm) (.int .i64 k) (by simp [q_, hk9])
      rw [add_at0] at this
      exact this
    generalize LnP P R mb w k s' = G at HX HY ⊢
    generalize nmG s'.nm nm = j at *
    generalize s'.ts.length = m at *
    obtain ⟨y, hy⟩ : ∃ y : ByteArray, y = ⟨nm.toArray⟩ := ⟨_, rfl⟩
    rw [← hy] at c3 hlk
    have hj : (j : Int) < (m : Int) := by omega
    clear h hw hN hx hk hk9 HH hd hb ho hy e2 e3 hnm
    go_enter Tryz.func161, Tryz.ntmps161
    go_wp2_with fail
    go_region
    all_goals
      go_wp2
      exact HY.out
  · have h2 : ((c : Int) == 2) = false := by simpa using hc
    by_cases h6 : c = 6
    · subst h6
      generalize LnP P R mb w _ s' = G at HX ⊢
      clear h hw hN hx hk HH hd hb ho HY
      go_enter Tryz.func161, Tryz.ntmps161
      go_wp2
      exact HX.out
    · have h7 : ((c : Int) == 6) = false := by simpa using h6
      rw [if_neg h6] at HX ⊢
      generalize LnP P R mb w 1 s' = G at HX ⊢
      clear h hw hN hx hk HH hd hb ho HY hc h6
      go_enter Tryz.func161, Tryz.ntmps161
      go_wp2
      exact HX.out
theorem box_new {R R' : Nat → Nat} {w W : World} {P mb : Nat} {s : Wr} (h : WrM R' W P mb s) (hl : Lw P R R' w W) (cs : Array Value) (t : TypeId) :
    WrM R' (W.alloc (.cells cs t)) P mb s ∧ Lw P R R' w (W.alloc (.cells cs t)) ∧ (W.alloc (.cells cs t)).heap[W.heap.size]? = some (.cells cs t) ∧ R' W.heap.size = 0 := by
  obtain ⟨h1, h2⟩ := h.al (.cells cs t)
  refine ⟨h1, hl.trans h2, heap_alloc_last W _, ?_⟩
  obtain ⟨_, _, _, _, h⟩ := h
  rcases Nat.eq_zero_or_pos (R' W.heap.size) with e | e
  · exact e
  · have := h.lo W.heap.size (by omega); omega
theorem Lw.box {P : Nat} {R R' : Nat → Nat} {w W : World} (h : Lw P R R' w W) {b : Nat} {cs : Array Value} {t : TypeId} (hb : w.heap[b]? = some (.cells cs t)) (h0 : R b = 0) : W.heap[b]? = some (.cells cs t) ∧ R' b = 0 := by
  have hlt := (Array.getElem?_eq_some_iff.1 hb).1
  exact ⟨(h.keep b hlt (.inl h0)).trans hb, (h.role b hlt).trans h0⟩
abbrev setU3 (W : World) (b o : Nat) (x y z : Value) : World := ((W.setCell ⟨b, o, none⟩ x).setCell ⟨b, o + 1, none⟩ y).setCell ⟨b, o + 2, none⟩ z
theorem valL_some {F : Lf} {t : Tr} {s s' : Wr} {p : Nat} (h : valL F t s = some (p, s')) : ∃ (k1 k2 k3 : IntKind) (c a n : Int) (nm op : By) (l r g : Tr), t = ndk k1 k2 k3 c a n nm op l r g ∧ ((c = 2 ∧ nm.length ≤ 1000 ∧ p = nmG s.nm nm ∧ s' = s) ∨
    (c ≠ 2 ∧ ∃ x s1 k s3, F.L t s = some (x, s1) ∧ kindL c nm { s1 with u1 := s.u1, u2 := s.u2 } = some (k, { s1 with u1 := s.u1, u2 := s.u2 }) ∧ ∃ q, takeL k { s1 with u1 := s.u1, u2 := s.u2 } = some (q, s3) ∧ finL x q s3 = some (p, s'))) := by
  unfold valL at h
  split at h
  · rename_i k1 c k2 a k3 n nm op l r g
    refine ⟨k1, k2, k3, c, a, n, nm, op, l, r, g, rfl, ?_⟩
    split at h
    · rename_i hc
      unfold nameL at h
      split at h
      · rename_i hn
        injection h with h
        injection h with h1 h2
        exact .inl ⟨hc, hn, h1.symm, h2.symm⟩
      · cases h
    · rename_i hc
      obtain ⟨x, s1, h1, h⟩ := zg h
      obtain ⟨u, s2, h2, h⟩ := zg h
      injection h2 with h2
      injection h2 with _ h2
      subst h2
      obtain ⟨k, s3, h3, h⟩ := zg h
      obtain ⟨rfl, h3'⟩ := kindL_some h3
      obtain ⟨q, s4, h4, h⟩ := zg h
      exact .inr ⟨hc, x, s1, k, s4, h1, h3, q, h4, h⟩
  · cases h
theorem takek_any {R : Nat → Nat} {w : World} {P mb : Nat} {s s' : Wr} {k : Int} {p : Nat} (h : WrM R w P mb s) (hx : takeL k s = some (p, s')) : Calls Tryz.prog 213 #[ptr P, .int .i64 k] w (LnP P R mb w (p : Int) s') := by
  unfold takeL at hx
  split at hx
  · rename_i e; subst e; exact take2_any h hx
  · split at hx
    · rename_i e; subst e; exact take1_any h hx
    · cases hx
theorem box10 {W : World} {b : Nat} {c d a b1 cc n l : Int} {yo yn : ByteArray} {av : Value} {t : TypeId} (h : W.heap[b]? = some (.cells #[.int .i64 c, .int .i64 d, .int .i64 a, .int .i64 b1, .int .i64 cc, .int .i64 n, .string yo, .int .i64 l, .string yn, av] t)) :
    W.cell? ⟨b, 0, none⟩ = some (.int .i64 c) ∧ W.cell? ⟨b, 1, none⟩ = some (.int .i64 d) ∧ W.cell? ⟨b, 2, none⟩ = some (.int .i64 a) ∧ W.cell? ⟨b, 3, none⟩ = some (.int .i64 b1) ∧ W.cell? ⟨b, 4, none⟩ = some (.int .i64 cc) ∧ W.cell? ⟨b, 5, none⟩ = some (.int .i64 n) ∧ W.cell? ⟨b, 6, none⟩ = some (.string yo) ∧ W.cell? ⟨b, 7, none⟩ = some (.int .i64 l) ∧ W.cell? ⟨b, 8, none⟩ = some (.string yn) ∧ W.cell? ⟨b, 9, none⟩ = some av :=
  ⟨z_ (i := 0) h rfl, z_ (i := 1) h rfl, z_ (i := 2) h rfl, z_ (i := 3) h rfl, z_ (i := 4) h rfl, z_ (i := 5) h rfl, z_ (i := 6) h rfl, z_ (i := 7) h rfl, z_ (i := 8) h rfl, z_ (i := 9) h rfl⟩
theorem us_back {R R' : Nat → Nat} {w W : World} {P mb a b : Nat} {s : Wr} (h : WrM R' W P mb s) (hl : Lw P R R' w W) (ha : a ≤ 100001) (hb : b ≤ 100001) :
    WrM R' (setU3 W P 6 (.int .i64 0) (.int .i64 (a : Int)) (.int .i64 (b : Int))) P mb { s with u1 := a, u2 := b } ∧ Lw P R R' w (setU3 W P 6 (.int .i64 0) (.int .i64 (a : Int)) (.int .i64 (b : Int))) := by
  obtain ⟨tv, sv, v1, v2, h⟩ := h
  have h1 := heap_setCell_same W P 6 _ _ (.int .i64 0) h.blk
  have h2 := heap_setCell_same _ P 7 _ _ (.int .i64 (a : Int)) h1
  have h3 := heap_setCell_same _ P 8 _ _ (.int .i64 (b : Int)) h2
  have hb3 : Below (P - 1) W (setU3 W P 6 (.int .i64 0) (.int .i64 (a : Int)) (.int .i64 (b : Int))) := (bel_set.trans bel_set).trans bel_set
  obtain ⟨hW, hL⟩ := h.setU (s' := { s with u1 := a, u2 := b }) (no := 0) hb3 (fun k hk hne => by
    rw [heap_setCell_other _ _ _ _ hne, heap_setCell_other _ _ _ _ hne, heap_setCell_other _ _ _ _ hne]) (by exact h3) rfl rfl rfl rfl rfl (h.ok.us ha hb)
  exact ⟨⟨_, _, _, _, hW⟩, hl.trans hL⟩
theorem ex_on {P : Nat} {w W : World} {t : Tr} {v : Value} (h : ExAt (Lo (P - 1)) w t v) (hb : Below (P - 1) w W) : ExAt (Lo (P - 1)) W t v := Keeps.ex (fun b cs t hb' _ hc => by rw [hb.block b hb']; exact hc) h
theorem value_of {F : Lf} (hL : LaC 212 F.L) : VaC (valL F) := by
  intro R w P mb s s' t v p h hx hv
  obtain ⟨k1, k2, k3, c, a, n, nm, op, l, r, g, rfl, hc⟩ := valL_some hv
  have HX : Hid (ExAt (Lo (P - 1)) w (ndk k1 k2 k3 c a n nm op l r g) v) := hx
  obtain ⟨b, vl, vr, vg, ys, hb, rfl, hw, ho⟩ := ndx hx
  obtain ⟨hN, -⟩ := hw w (Below.refl _ _)
  have c0 := hN.c0
  have c3 := hN.c3
  have HH : Hid (WrM R w P mb s) := h
  obtain ⟨tv, sv, v1, v2, h⟩ := h
  rcases hc with ⟨rfl, hnm, rfl, rfl⟩ | ⟨hc, x, s1, k, s3, e1, e2, q, e3, e4⟩
  · have hlk := h.name nm (by omega) w.drew rfl
    have d2 : w.cell? ⟨P, 2, none⟩ = some (.map (some mb)) := z_ (i := 2) h.blk rfl
    have HY : Hid (LnP P R mb w (nmG s'.nm nm : Int) s' (.returned (.int .i64 (nmG s'.nm nm : Int))) w.drew) := ⟨rfl, R, HH.out.on (fun _ _ => rfl) (zl _ _), zl _ _, fun _ _ => rfl, fun _ _ _ => rfl⟩
    generalize LnP P R mb w (nmG s'.nm nm : Int) s' = G at HY ⊢
    generalize nmG s'.nm nm = j at *
    obtain ⟨y, hy⟩ : ∃ y : ByteArray, y = ⟨nm.toArray⟩ := ⟨_, rfl⟩
    rw [← hy] at c3 hlk
    clear h hw hN hx HX HH hb ho hy hnm hv hL
    go_enter Tryz.func163, Tryz.ntmps163
    go_wp2_with fail
    go_region
    all_goals
      go_wp2
      exact HY.out
  · have hc2 : ((c : Int) == 2) = false := by simpa using hc
    have hu1 := h.ok.u1
    have hu2 := h.ok.u2
    have d6 : w.cell? ⟨P, 6, none⟩ = some (.int .i64 0) := z_ (i := 6) h.blk rfl
    have d7 : w.cell? ⟨P, 7, none⟩ = some (.int .i64 (s.u1 : Int)) := z_ (i := 7) h.blk rfl
    have d8 : w.cell? ⟨P, 8, none⟩ = some (.int .i64 (s.u2 : Int)) := z_ (i := 8) h.blk rfl
    obtain ⟨W1, hW1⟩ : ∃ W1, W1 = w.alloc (.cells #[.int .i64 0, .int .i64 (s.u1 : Int), .int .i64 (s.u2 : Int)] 157) := ⟨_, rfl⟩
    obtain ⟨hm1, hl1, hb1, hr1⟩ := box_new HH.out (Lw.refl P R w) #[.int .i64 0, .int .i64 (s.u1 : Int), .int .i64 (s.u2 : Int)] 157
    rw [← hW1] at hm1 hl1 hb1
    have HC : Hid (Calls Tryz.prog 212 #[ptr P, ptr b] W1 (LsP P R mb W1 x s1)) := hL R W1 P mb s s1 _ _ x hm1 (ex_on hx hl1.bel) e1
    have HBk : Hid (∀ R' W, Lw P R R' W1 W → W.heap[w.heap.size]? = some (.cells #[.int .i64 0, .int .i64 (s.u1 : Int), .int .i64 (s.u2 : Int)] 157)) := fun R' W hl => (hl.box hb1 hr1).1
    have HL1 : Hid (Lw P R R w W1) := hl1
    obtain ⟨G, hG⟩ : ∃ G, G = LnP P R mb w (p : Int) s' := ⟨_, rfl⟩
    have HG : Hid (G = LnP P R mb w (p : Int) s') := hG
    have HK : Hid (∀ R' W, WrM R' W P mb { s1 with u1 := s.u1, u2 := s.u2 } → Below (P - 1) w W → Calls Tryz.prog 161 #[ptr P, ptr b] W (LnP P R' mb W k { s1 with u1 := s.u1, u2 := s.u2 })) := fun R' W h1 h2 => kind_any h1 (ex_on HX.out h2) e2
    have HT : Hid (∀ R' W, WrM R' W P mb { s1 with u1 := s.u1, u2 := s.u2 } → Calls Tryz.prog 213 #[ptr P, .int .i64 k] W (LnP P R' mb W (q : Int) s3)) := fun R' W h1 => takek_any h1 e3
    obtain ⟨xc, xd, xa, xb, xcc, xn, xo, xl, xm, xg⟩ := x
    obtain ⟨yo, hyo⟩ : ∃ y : ByteArray, y = ⟨xo.toArray⟩ := ⟨_, rfl⟩
    obtain ⟨yn, hyn⟩ : ∃ y : ByteArray, y = ⟨xm.toArray⟩ := ⟨_, rfl⟩
    have HF : Hid (∀ R' W qa na ca, WrM R' W P mb s3 → ArAt R' W (.slice qa na ca) xg → Calls Tryz.prog 211 #[ptr P, .agg #[.int .i64 xc, .int .i64 xd, .int .i64 xa, .int .i64 xb, .int .i64 xcc, .int .i64 xn, .string yo, .int .i64 xl, .string yn, .slice qa na ca], .int .i64 (q : Int)] W (LnP P R' mb W (p : Int) s')) := fun R' W qa na ca h1 h2 => by
      rw [hyo, hyn]
      exact finish_any (x := ⟨xc, xd, xa, xb, xcc, xn, xo, xl, xm, xg⟩) h1 qa na ca h2 e4
    have HC2 : Hid (Calls Tryz.prog 212 #[ptr P, ptr b] W1 (fun e w' => ∃ qa na ca, e = .returned (.agg #[.int .i64 xc, .int .i64 xd, .int .i64 xa, .int .i64 xb, .int .i64 xcc, .int .i64 xn, .string yo, .int .i64 xl, .string yn, .slice qa na ca]) ∧ ∃ R', WrM R' w' P mb s1 ∧ Lw P R R' W1 w' ∧ ArAt R' w' (.slice qa na ca) xg)) := by
      rw [hyo, hyn]
      refine HC.out.mono ?_
      rintro e w' ⟨qa, na, ca, he, R', q1, q2, q3⟩
      exact ⟨qa, na, ca, he, R', q1, q2, q3⟩
    have HU : Hid (∀ R' W, WrM R' W P mb s1 → WrM R' (((W.setCell ⟨P, 6, none⟩ (.int .i64 0)).setCell ⟨P, 7, none⟩ (.int .i64 (s.u1 : Int))).setCell ⟨P, 8, none⟩ (.int .i64 (s.u2 : Int))) P mb { s1 with u1 := s.u1, u2 := s.u2 } ∧ Lw P R' R' W (((W.setCell ⟨P, 6, none⟩ (.int .i64 0)).setCell ⟨P, 7, none⟩ (.int .i64 (s.u1 : Int))).setCell ⟨P, 8, none⟩ (.int .i64 (s.u2 : Int)))) := fun R' W h1 => us_back h1 (Lw.refl _ _ _) hu1 hu2
    have HPw : Hid (P < w.heap.size ∧ b < P) := ⟨h.ltP, by omega⟩
    rw [← hG]
    generalize hs2 : ({ s1 with u1 := s.u1, u2 := s.u2 } : Wr) = s2 at HK HT HU
    generalize s.u1 = u1 at *
    generalize s.u2 = u2 at *
    clear h hw hN hx HX hb ho hv hL hm1 hl1 hb1 hr1 HC hyo hyn hG e1 e2 e3 e4 hc hu1 hu2 HH hs2
    go_enter Tryz.func163, Tryz.ntmps163
    go_wp2_with (go_at_call 212; fail)
    rw [← hW1]
    clear hW1
    refine HC2.out.mono ?_
    rintro e w2 ⟨qa, na, ca, rfl, R2, hm2, hl2, har⟩
    have hl02 := HL1.out.trans hl2
    obtain ⟨hm3, hl3, hb3, hr3⟩ := box_new hm2 hl02 #[.int .i64 xc, .int .i64 xd, .int .i64 xa, .int .i64 xb, .int .i64 xcc, .int .i64 xn, .string yo, .int .i64 xl, .string yn, .slice qa na ca] 125
    have hal : Lw P R2 R2 w2 (w2.alloc (.cells #[.int .i64 xc, .int .i64 xd, .int .i64 xa, .int .i64 xb, .int .i64 xcc, .int .i64 xn, .string yo, .int .i64 xl, .string yn, .slice qa na ca] 125)) := (hm2.al _).2
    obtain ⟨W3, hW3⟩ : ∃ W3, W3 = w2.alloc (.cells #[.int .i64 xc, .int .i64 xd, .int .i64 xa, .int .i64 xb, .int .i64 xcc, .int .i64 xn, .string yo, .int .i64 xl, .string yn, .slice qa na ca] 125) := ⟨_, rfl⟩
    rw [← hW3] at hm3 hl3 hb3 hal
    obtain ⟨hm4, hl4⟩ := HU.out R2 W3 hm3
    have hbk := HBk.out R2 W3 (hl2.trans hal)
    have z0 := z_ (i := 0) hbk rfl
    have z1 := z_ (i := 1) hbk rfl
    have z2 := z_ (i := 2) hbk rfl
    obtain ⟨W4, hW4⟩ : ∃ W4, W4 = ((W3.setCell ⟨P, 6, none⟩ (.int .i64 0)).setCell ⟨P, 7, none⟩ (.int .i64 (u1 : Int))).setCell ⟨P, 8, none⟩ (.int .i64 (u2 : Int)) := ⟨_, rfl⟩
    rw [← hW4] at hm4 hl4
    have HB : Hid (∀ R' W, Lw P R2 R' W3 W → W.heap[w2.heap.size]? = some (.cells #[.int .i64 xc, .int .i64 xd, .int .i64 xa, .int .i64 xb, .int .i64 xcc, .int .i64 xn, .string yo, .int .i64 xl, .string yn, .slice qa na ca] 125)) := fun R' W hl => (hl.box hb3 hr3).1
    have hd4 : Lw P R2 R2 W4 W4.drew := ⟨zl _ _, fun _ _ => rfl, fun _ _ _ => rfl⟩
    have HM4 : Hid (WrM R2 W4.drew P mb s2) := hm4.on (fun _ _ => rfl) (zl _ _)
    have HL4 : Hid (Lw P R2 R2 W3 W4.drew) := hl4.trans hd4
    have HA4 : Hid (ArAt R2 W4.drew (.slice qa na ca) xg) := (har.kept hal).kept (hl4.trans hd4)
    have HL3 : Hid (Lw P R R2 w W3) := hl3
    obtain ⟨y0, y1, y2, y3, y4, y5, y6, y7, y8, y9⟩ := box10 (W := W4) (HB.out R2 W4 hl4)
    obtain ⟨p6, p7, p8, f6, f7, f8⟩ : (∃ v, W3.cell? ⟨P, 6, none⟩ = some v) ∧ (∃ v, W3.cell? ⟨P, 7, none⟩ = some v) ∧ (∃ v, W3.cell? ⟨P, 8, none⟩ = some v) ∧ W3.frozen? ⟨P, 6, none⟩ = false ∧ W3.frozen? ⟨P, 7, none⟩ = false ∧ W3.frozen? ⟨P, 8, none⟩ = false := by
      obtain ⟨_, _, _, _, hh⟩ := hm3
      exact ⟨⟨_, z_ (i := 6) hh.blk rfl⟩, ⟨_, z_ (i := 7) hh.blk rfl⟩, ⟨_, z_ (i := 8) hh.blk rfl⟩, zb hh.blk 6, zb hh.blk 7, zb hh.blk 8⟩
    obtain ⟨x6, p6⟩ := p6
    obtain ⟨x7, p7⟩ := p7
    obtain ⟨x8, p8⟩ := p8
    rw [hW3] at z0 z1 z2 p6 p7 p8 f6 f7 f8 hW4
    clear hm2 hl2 har hl02 hm3 hl3 hb3 hr3 hal hm4 hl4 hbk hd4 HC2 HU HBk hW3
    go_wp2_with fail
    rw [← hW4]
    clear hW4 z0 z1 z2 p6 p7 p8 f6 f7 f8
    go_region_with (first
      | (go_at_call 161; refine (HK.out R2 W4.drew HM4.out ((HL3.out.trans HL4.out).bel)).mono ?_; rintro e w5 ⟨rfl, R5, hm5, hl5⟩; have HM5 : Hid (WrM R5 w5 P mb s2) := hm5; have HL5 : Hid (Lw P R2 R5 W3 w5) := HL4.out.trans hl5; have HA5 : Hid (ArAt R5 w5 (.slice qa na ca) xg) := HA4.out.kept hl5; obtain ⟨t0, t1, t2, t3, t4, t5, t6, t7, t8, t9⟩ := box10 (HB.out _ _ HL5.out); clear hm5 hl5)
      | (go_at_call 213; refine (HT.out R5 w5 HM5.out).mono ?_; rintro e w6 ⟨rfl, R6, hm6, hl6⟩; have HM6 : Hid (WrM R6 w6 P mb s3) := hm6; have HL6 : Hid (Lw P R2 R6 W3 w6) := HL5.out.trans hl6; have HA6 : Hid (ArAt R6 w6 (.slice qa na ca) xg) := HA5.out.kept hl6; obtain ⟨t0, t1, t2, t3, t4, t5, t6, t7, t8, t9⟩ := box10 (HB.out _ _ HL6.out); clear hm6 hl6)
      | (go_at_call 211; refine (HF.out R6 w6 qa na ca HM6.out HA6.out).mono ?_; rintro e w7 ⟨rfl, R7, hm7, hl7⟩; have HE : Hid (G (.returned (.int .i64 (p : Int))) w7) := (by show G _ _; rw [HG.out]; exact ⟨rfl, R7, hm7, HL3.out.trans (HL6.out.trans hl7)⟩); clear hm7 hl7))
    all_goals
      go_wp2
      go_ret
      exact HE.out
theorem qQ {fn : Func} {p : Tmp} (h : fn.results = #[.cell p 125]) (tmps : Array Value) (w : World) (g : Nat) (a0 a1 a2 a3 a4 a5 a6 a7 a8 a9 : Value) (hp : tmps.getD p undef = .pointer (some ⟨g, 0, none⟩)) (hg : w.heap[g]? = some (.cells #[a0, a1, a2, a3, a4, a5, a6, a7, a8, a9] 125)) :
    (results fn tmps).run Tryz.prog w = .ok (.agg #[a0, a1, a2, a3, a4, a5, a6, a7, a8, a9]) w := by
  have h1 : (loadVar 125 ⟨g, 0, none⟩).run Tryz.prog w = .ok (.agg #[a0, a1, a2, a3, a4, a5, a6, a7, a8, a9]) w := run_loadVar_row w g 125 125 _ (0, 0) _ hg Tryz.underlying125 rfl (by kernel_rfl)
  rw [zR h, hp]
  simp [asAddr]
  exact h1
abbrev zst : Obj := .cells #[.int .i64 0, .int .i64 0, .int .i64 0, .int .i64 0, .int .i64 0, .int .i64 0, .string ⟨#[]⟩, .int .i64 0, .string ⟨#[]⟩, .slice none 0 0] 125
abbrev set10 (W : World) (g : Nat) (a0 a1 a2 a3 a4 a5 a6 a7 a8 a9 : Value) : World := (((((((((W.setCell ⟨g, 0, none⟩ a0).setCell ⟨g, 1, none⟩ a1).setCell ⟨g, 2, none⟩ a2).setCell ⟨g, 3, none⟩ a3).setCell ⟨g, 4, none⟩ a4).setCell ⟨g, 5, none⟩ a5).setCell ⟨g, 6, none⟩ a6).setCell ⟨g, 7, none⟩ a7).setCell ⟨g, 8, none⟩ a8).setCell ⟨g, 9, none⟩ a9
theorem Wc.other {R : Nat → Nat} {W W' : World} {P mb : Nat} {tv sv v1 v2 : Value} {s : Wr} (h : Wc R W P mb tv sv v1 v2 s) {g : Nat} {cs : Array Value} {t : TypeId} (hg : W.heap[g]? = some (.cells cs t)) (ht : t ≠ 3) (h0 : R g = 0) (hk : ∀ b, b ≠ g → W'.heap[b]? = W.heap[b]?) (hs : W.heap.size ≤ W'.heap.size) : Wc R W' P mb tv sv v1 v2 s := by
  have hr : ∀ b, R b ≠ 0 → W'.heap[b]? = W.heap[b]? := fun b hb => hk b (fun e => hb (by rw [e]; exact h0))
  obtain ⟨avs, a1, a2, a3⟩ := h.st
  obtain ⟨n, m1, m2⟩ := h.m
  refine ⟨(hr P (by rw [h.rP]; omega)).trans h.blk, qr h.t (fun i hi => hr i (by rw [h.rt i hi]; omega)), ⟨avs, a1, qr a2 (fun i hi => hr i (by rw [h.rs i hi]; omega)), fun j x a hx ha => ?_⟩, qr h.p1 (fun i hi => hr i (by rw [h.r1 i hi]; omega)), qr h.p2 (fun i hi => hr i (by rw [h.r2 i hi]; omega)), ⟨n, m1.kept (hr mb (by rw [h.rm]; omega)), m2⟩, h.rP, h.rt, h.rs, h.r1, h.r2, h.rm, fun b hb => ⟨(h.lo b hb).1, Nat.lt_of_lt_of_le (h.lo b hb).2 hs⟩, h.ok⟩
  obtain ⟨q, c, e, h2⟩ := a3 j x a hx ha
  refine ⟨q, c, e, ?_⟩
  rcases h2 with h2 | ⟨k, ks, e1, e2, e3, e4⟩
  · exact .inl h2
  · refine .inr ⟨k, ks, e1, e2, (hk k (fun e' => ?_)).trans e3, e4⟩
    rw [e', hg] at e3
    injection e3 with e3
    injection e3 with _ e3
    exact ht e3
theorem ArAt.other {R : Nat → Nat} {W W' : World} {v : Value} {l : List Int} (h : ArAt R W v l) {g : Nat} {cs : Array Value} {t : TypeId} (hg : W.heap[g]? = some (.cells cs t)) (ht : t ≠ 3) (hk : ∀ b, b ≠ g → W'.heap[b]? = W.heap[b]?) : ArAt R W' v l := by
  obtain ⟨q, c, e, h2⟩ := h
  refine ⟨q, c, e, ?_⟩
  rcases h2 with h2 | ⟨k, ks, e1, e2, e3, e4⟩
  · exact .inl h2
  · refine .inr ⟨k, ks, e1, e2, (hk k (fun e' => ?_)).trans e3, e4⟩
    rw [e', hg] at e3
    injection e3 with e3
    injection e3 with _ e3
    exact ht e3
theorem set10_other (W : World) (g : Nat) (a0 a1 a2 a3 a4 a5 a6 a7 a8 a9 : Value) (b : Nat) (hb : b ≠ g) : (set10 W g a0 a1 a2 a3 a4 a5 a6 a7 a8 a9).heap[b]? = W.heap[b]? := by
  rw [heap_setCell_other _ _ _ _ hb, heap_setCell_other _ _ _ _ hb, heap_setCell_other _ _ _ _ hb, heap_setCell_other _ _ _ _ hb, heap_setCell_other _ _ _ _ hb, heap_setCell_other _ _ _ _ hb, heap_setCell_other _ _ _ _ hb, heap_setCell_other _ _ _ _ hb, heap_setCell_other _ _ _ _ hb, heap_setCell_other _ _ _ _ hb]
theorem set10_same (W : World) (g : Nat) (t : TypeId) (z0 z1 z2 z3 z4 z5 z6 z7 z8 z9 a0 a1 a2 a3 a4 a5 a6 a7 a8 a9 : Value) (h : W.heap[g]? = some (.cells #[z0, z1, z2, z3, z4, z5, z6, z7, z8, z9] t)) : (set10 W g a0 a1 a2 a3 a4 a5 a6 a7 a8 a9).heap[g]? = some (.cells #[a0, a1, a2, a3, a4, a5, a6, a7, a8, a9] t) := by
  have h0 : (W.setCell ⟨g, 0, none⟩ a0).heap[g]? = some (.cells #[a0, z1, z2, z3, z4, z5, z6, z7, z8, z9] t) := heap_setCell_same _ g 0 _ t a0 h
  have h1 : ((W.setCell ⟨g, 0, none⟩ a0).setCell ⟨g, 1, none⟩ a1).heap[g]? = some (.cells #[a0, a1, z2, z3, z4, z5, z6, z7, z8, z9] t) := heap_setCell_same _ g 1 _ t a1 h0
  have h2 : (((W.setCell ⟨g, 0, none⟩ a0).setCell ⟨g, 1, none⟩ a1).setCell ⟨g, 2, none⟩ a2).heap[g]? = some (.cells #[a0, a1, a2, z3, z4, z5, z6, z7, z8, z9] t) := heap_setCell_same _ g 2 _ t a2 h1
  have h3 : ((((W.setCell ⟨g, 0, none⟩ a0).setCell ⟨g, 1, none⟩ a1).setCell ⟨g, 2, none⟩ a2).setCell ⟨g, 3, none⟩ a3).heap[g]? = some (.cells #[a0, a1, a2, a3, z4, z5, z6, z7, z8, z9] t) := heap_setCell_same _ g 3 _ t a3 h2
  have h4 : (((((W.setCell ⟨g, 0, none⟩ a0).setCell ⟨g, 1, none⟩ a1).setCell ⟨g, 2, none⟩ a2).setCell ⟨g, 3, none⟩ a3).setCell ⟨g, 4, none⟩ a4).heap[g]? = some (.cells #[a0, a1, a2, a3, a4, z5, z6, z7, z8, z9] t) := heap_setCell_same _ g 4 _ t a4 h3
  have h5 : ((((((W.setCell ⟨g, 0, none⟩ a0).setCell ⟨g, 1, none⟩ a1).setCell ⟨g, 2, none⟩ a2).setCell ⟨g, 3, none⟩ a3).setCell ⟨g, 4, none⟩ a4).setCell ⟨g, 5, none⟩ a5).heap[g]? = some (.cells #[a0, a1, a2, a3, a4, a5, z6, z7, z8, z9] t) := heap_setCell_same _ g 5 _ t a5 h4
  have h6 : (((((((W.setCell ⟨g, 0, none⟩ a0).setCell ⟨g, 1, none⟩ a1).setCell ⟨g, 2, none⟩ a2).setCell ⟨g, 3, none⟩ a3).setCell ⟨g, 4, none⟩ a4).setCell ⟨g, 5, none⟩ a5).setCell ⟨g, 6, none⟩ a6).heap[g]? = some (.cells #[a0, a1, a2, a3, a4, a5, a6, z7, z8, z9] t) := heap_setCell_same _ g 6 _ t a6 h5
  have h7 : ((((((((W.setCell ⟨g, 0, none⟩ a0).setCell ⟨g, 1, none⟩ a1).setCell ⟨g, 2, none⟩ a2).setCell ⟨g, 3, none⟩ a3).setCell ⟨g, 4, none⟩ a4).setCell ⟨g, 5, none⟩ a5).setCell ⟨g, 6, none⟩ a6).setCell ⟨g, 7, none⟩ a7).heap[g]? = some (.cells #[a0, a1, a2, a3, a4, a5, a6, a7, z8, z9] t) := heap_setCell_same _ g 7 _ t a7 h6
  have h8 : (((((((((W.setCell ⟨g, 0, none⟩ a0).setCell ⟨g, 1, none⟩ a1).setCell ⟨g, 2, none⟩ a2).setCell ⟨g, 3, none⟩ a3).setCell ⟨g, 4, none⟩ a4).setCell ⟨g, 5, none⟩ a5).setCell ⟨g, 6, none⟩ a6).setCell ⟨g, 7, none⟩ a7).setCell ⟨g, 8, none⟩ a8).heap[g]? = some (.cells #[a0, a1, a2, a3, a4, a5, a6, a7, a8, z9] t) := heap_setCell_same _ g 8 _ t a8 h7
  have h9 : ((((((((((W.setCell ⟨g, 0, none⟩ a0).setCell ⟨g, 1, none⟩ a1).setCell ⟨g, 2, none⟩ a2).setCell ⟨g, 3, none⟩ a3).setCell ⟨g, 4, none⟩ a4).setCell ⟨g, 5, none⟩ a5).setCell ⟨g, 6, none⟩ a6).setCell ⟨g, 7, none⟩ a7).setCell ⟨g, 8, none⟩ a8).setCell ⟨g, 9, none⟩ a9).heap[g]? = some (.cells #[a0, a1, a2, a3, a4, a5, a6, a7, a8, a9] t) := heap_setCell_same _ g 9 _ t a9 h8
  exact h9
theorem fin_step {R R' : Nat → Nat} {w W : World} {P mb : Nat} {s s' : Wr} (h : WrM R w P mb s) (hm : WrM R' W P mb s') (hl : Lw P R R' (w.alloc zst) W) (c d a b cc n l : Int) (yo yn : ByteArray) (args : List Int) (qa : Option Addr) (na ca : Nat) (har : ArAt R' W (.slice qa na ca) args) :
    (set10 W w.heap.size (.int .i64 c) (.int .i64 d) (.int .i64 a) (.int .i64 b) (.int .i64 cc) (.int .i64 n) (.string yo) (.int .i64 l) (.string yn) (.slice qa na ca)).heap[w.heap.size]? = some (.cells #[.int .i64 c, .int .i64 d, .int .i64 a, .int .i64 b, .int .i64 cc, .int .i64 n, .string yo, .int .i64 l, .string yn, .slice qa na ca] 125) ∧
    LsP P R mb w ⟨c, d, a, b, cc, n, yo.data.toList, l, yn.data.toList, args⟩ s' (.returned (.agg #[.int .i64 c, .int .i64 d, .int .i64 a, .int .i64 b, .int .i64 cc, .int .i64 n, .string yo, .int .i64 l, .string yn, .slice qa na ca])) (set10 W w.heap.size (.int .i64 c) (.int .i64 d) (.int .i64 a) (.int .i64 b) (.int .i64 cc) (.int .i64 n) (.string yo) (.int .i64 l) (.string yn) (.slice qa na ca)) := by
  obtain ⟨h1, h2, h3, h4⟩ := box_new h (Lw.refl P R w) #[.int .i64 0, .int .i64 0, .int .i64 0, .int .i64 0, .int .i64 0, .int .i64 0, .string ⟨#[]⟩, .int .i64 0, .string ⟨#[]⟩, .slice none 0 0] 125
  obtain ⟨h5, h6⟩ := hl.box h3 h4
  have hPw : P < w.heap.size := by obtain ⟨_, _, _, _, h⟩ := h; exact h.ltP
  have hk := set10_other W w.heap.size (.int .i64 c) (.int .i64 d) (.int .i64 a) (.int .i64 b) (.int .i64 cc) (.int .i64 n) (.string yo) (.int .i64 l) (.string yn) (.slice qa na ca)
  have hsz : (set10 W w.heap.size (.int .i64 c) (.int .i64 d) (.int .i64 a) (.int .i64 b) (.int .i64 cc) (.int .i64 n) (.string yo) (.int .i64 l) (.string yn) (.slice qa na ca)).heap.size = W.heap.size := by simp
  have e1 : (⟨yo.data.toList.toArray⟩ : ByteArray) = yo := by rw [Array.toArray_toList]
  have e2 : (⟨yn.data.toList.toArray⟩ : ByteArray) = yn := by rw [Array.toArray_toList]
  have hbel : ∀ (X : World) (i : Nat) (v : Value), Below (P - 1) X (X.setCell ⟨w.heap.size, i, none⟩ v) := fun X i v => (Below.refl _ _).setCell (p := ⟨w.heap.size, i, none⟩) (show P - 1 ≤ w.heap.size by omega) _
  have hB : Below (P - 1) W (set10 W w.heap.size (.int .i64 c) (.int .i64 d) (.int .i64 a) (.int .i64 b) (.int .i64 cc) (.int .i64 n) (.string yo) (.int .i64 l) (.string yn) (.slice qa na ca)) := (((((((((hbel _ _ _).trans (hbel _ _ _)).trans (hbel _ _ _)).trans (hbel _ _ _)).trans (hbel _ _ _)).trans (hbel _ _ _)).trans (hbel _ _ _)).trans (hbel _ _ _)).trans (hbel _ _ _)).trans (hbel _ _ _)
  refine ⟨set10_same W _ _ _ _ _ _ _ _ _ _ _ _ _ _ _ _ _ _ _ _ _ _ h5, qa, na, ca, ?_, R', ?_, ?_, ?_⟩
  · show _ = Ending.returned (.agg #[_, _, _, _, _, _, .string ⟨yo.data.toList.toArray⟩, _, .string ⟨yn.data.toList.toArray⟩, _])
    rw [e1, e2]
  · obtain ⟨tv, sv, v1, v2, hm⟩ := hm
    exact ⟨tv, sv, v1, v2, hm.other h5 (by decide) h6 hk (by rw [hsz]; exact Nat.le_refl _)⟩
  · have hl0 := h2.trans hl
    refine ⟨hl0.bel.trans hB, hl0.role, fun k hk' h0 => ?_⟩
    rw [hk k (by omega)]
    exact hl0.keep k hk' h0
  · exact har.other h5 (by decide) hk
theorem oneL_some {F : Lf} {op : By} {l : Tr} {s s' : Wr} {x : Ms} (h : oneL F op l s = some (x, s')) : ∃ p s1 z, F.V l s = some (p, s1) ∧ zeroL s1 = some (z, s') ∧ ((op = [45] ∧ x = ⟨3, 0, (z : Int), (p : Int), 0, 0, [45], 0, [], []⟩) ∨ (op ≠ [45] ∧ x = ⟨3, 0, (p : Int), (z : Int), 0, 0, [61, 61], 0, [], []⟩)) := by
  unfold oneL at h
  obtain ⟨p, s1, h1, h⟩ := zg h
  obtain ⟨z, s2, h2, h⟩ := zg h
  injection h with h
  injection h with h3 h4
  subst h4
  refine ⟨p, s1, z, h1, h2, ?_⟩
  by_cases e : op = [45]
  · rw [if_pos e] at h3; exact .inl ⟨e, h3.symm⟩
  · rw [if_neg e] at h3; exact .inr ⟨e, h3.symm⟩
theorem op_tl (op : By) : (⟨op.toArray⟩ : ByteArray).toList = op := by rw [← tl_eq]
theorem zcells {P : Nat} {R R' : Nat → Nat} {w W : World} {mb : Nat} {s : Wr} (h : WrM R w P mb s) (hl : Lw P R R' (w.alloc zst) W) :
    (W.cell? ⟨w.heap.size, 0, none⟩ = some (.int .i64 0) ∧ W.cell? ⟨w.heap.size, 1, none⟩ = some (.int .i64 0) ∧ W.cell? ⟨w.heap.size, 2, none⟩ = some (.int .i64 0) ∧ W.cell? ⟨w.heap.size, 3, none⟩ = some (.int .i64 0) ∧ W.cell? ⟨w.heap.size, 4, none⟩ = some (.int .i64 0) ∧ W.cell? ⟨w.heap.size, 5, none⟩ = some (.int .i64 0) ∧ W.cell? ⟨w.heap.size, 6, none⟩ = some (.string ⟨#[]⟩) ∧ W.cell? ⟨w.heap.size, 7, none⟩ = some (.int .i64 0) ∧ W.cell? ⟨w.heap.size, 8, none⟩ = some (.string ⟨#[]⟩) ∧ W.cell? ⟨w.heap.size, 9, none⟩ = some (.slice none 0 0)) ∧ ∀ i, W.frozen? ⟨w.heap.size, i, none⟩ = false := by
  obtain ⟨h1, h2, h3, h4⟩ := box_new h (Lw.refl P R w) #[.int .i64 0, .int .i64 0, .int .i64 0, .int .i64 0, .int .i64 0, .int .i64 0, .string ⟨#[]⟩, .int .i64 0, .string ⟨#[]⟩, .slice none 0 0] 125
  obtain ⟨h5, h6⟩ := hl.box h3 h4
  exact ⟨box10 h5, fun i => zb h5 i⟩
theorem one_of {F : Lf} (hV : VaC F.V) {R : Nat → Nat} {w : World} {P mb : Nat} {s s' : Wr} {k1 k2 k3 : IntKind} {c a n : Int} {nm op : By} {l r g : Tr} {v : Value} {x : Ms} (h : WrM R w P mb s) (hx : ExAt (Lo (P - 1)) w (ndk k1 k2 k3 c a n nm op l r g) v) (ho : oneL F op l s = some (x, s')) :
    Calls Tryz.prog 241 #[ptr P, v] w (LsP P R mb w x s') := by
  obtain ⟨p, s1, z, e1, e2, e3⟩ := oneL_some ho
  obtain ⟨b, vl, vr, vg, ys, hb, rfl, hw, hbo⟩ := ndx hx
  obtain ⟨W1, hW1⟩ : ∃ W1, W1 = w.alloc zst := ⟨_, rfl⟩
  obtain ⟨hm1, hl1⟩ := h.al zst
  rw [← hW1] at hm1 hl1
  obtain ⟨hN1, hX1, -⟩ := hw W1 hl1.bel
  have c5 := hN1.c5
  have HV : Hid (Calls Tryz.prog 163 #[ptr P, vl] W1 (LnP P R mb W1 (p : Int) s1)) := hV R W1 P mb s s1 l vl p hm1 hX1 e1
  obtain ⟨yo, hyo⟩ : ∃ y : ByteArray, y = ⟨op.toArray⟩ := ⟨_, rfl⟩
  have HW : Hid (∀ W, Below (P - 1) w W → W.cell? ⟨b, 4, none⟩ = some (.string yo)) := fun W hW => by rw [hyo]; exact (hw W hW).1.c4
  have HL1 : Hid (Lw P R R w W1) := hl1
  have HM0 : Hid (WrM R w P mb s) := h
  have HW1 : Hid (W1 = w.alloc zst) := hW1
  have hyl : yo.toList = op := by rw [hyo, op_tl]
  obtain ⟨G, hG⟩ : ∃ G, G = LsP P R mb w x s' := ⟨_, rfl⟩
  have HG : Hid (G = LsP P R mb w x s') := hG
  rw [← hG]
  have hW1' : W1 = w.alloc (.cells #[.int .i64 0, .int .i64 0, .int .i64 0, .int .i64 0, .int .i64 0, .int .i64 0, .string ⟨#[]⟩, .int .i64 0, .string ⟨#[]⟩, .slice none 0 0] 125) := hW1
  rw [hW1'] at c5
  clear hw hx hbo hV hm1 hl1 hN1 hX1 hG ho h hyo e1 hW1
  rcases e3 with ⟨rfl, e4⟩ | ⟨hop, e4⟩
  · have ht : (yo.toList == [45]) = true := by rw [hyl]; rfl
    have HX : Hid (x = _) := e4
    clear hyl e4
    go_enter Tryz.func241, Tryz.ntmps241
    go_wp2_with (go_at_call 163; fail)
    rw [← hW1']
    clear hW1' c5
    refine HV.out.mono ?_
    rintro e w2 ⟨rfl, R2, hm2, hl2⟩
    have c4 := HW.out w2 (HL1.out.trans hl2).bel
    have HZ : Hid (Calls Tryz.prog 71 #[ptr P] w2 (LnP P R2 mb w2 (z : Int) s')) := zero_any hm2 e2
    have HL2 : Hid (Lw P R R2 W1 w2) := hl2
    clear hm2 hl2
    go_wp2_with (go_at_call 71; fail)
    refine HZ.out.mono ?_
    rintro e w3 ⟨rfl, R3, hm3, hl3⟩
    have hl13 : Lw P R R3 (w.alloc zst) w3 := HW1.out ▸ HL2.out.trans hl3
    obtain ⟨⟨z0, z1, z2, z3, z4, z5, z6, z7, z8, z9⟩, zf⟩ := zcells HM0.out hl13
    have f0 := zf 0; have f1 := zf 1; have f2 := zf 2; have f3 := zf 3; have f4 := zf 4; have f5 := zf 5; have f6 := zf 6; have f7 := zf 7; have f8 := zf 8; have f9 := zf 9
    obtain ⟨r1, r2⟩ := fin_step HM0.out hm3 hl13 3 0 (z : Int) (p : Int) 0 0 0 ⟨#[45]⟩ ⟨#[]⟩ [] none 0 0 (ArAt.none _ _)
    have HR : Hid (_ = _) := r1
    have HE : Hid (LsP P R mb w x s' _ _) := HX.out ▸ r2
    rw [Hid, ← HG.out] at HE
    have HE2 : Hid (G _ _) := HE
    clear HE hm3 hl3 hl13 r1 r2 zf c4
    go_wp2
    refine bodyPost_ret (qQ Tryz.results241 _ _ w.heap.size _ _ _ _ _ _ _ _ _ _ rfl HR.out) rfl ?_
    exact HE2.out
  · have ht : (yo.toList == [45]) = false := by rw [hyl]; simpa using hop
    have HX : Hid (x = _) := e4
    clear hyl e4 hop
    go_enter Tryz.func241, Tryz.ntmps241
    go_wp2_with (go_at_call 163; fail)
    rw [← hW1']
    clear hW1' c5
    refine HV.out.mono ?_
    rintro e w2 ⟨rfl, R2, hm2, hl2⟩
    have c4 := HW.out w2 (HL1.out.trans hl2).bel
    have HZ : Hid (Calls Tryz.prog 71 #[ptr P] w2 (LnP P R2 mb w2 (z : Int) s')) := zero_any hm2 e2
    have HL2 : Hid (Lw P R R2 W1 w2) := hl2
    clear hm2 hl2
    go_wp2_with (go_at_call 71; fail)
    refine HZ.out.mono ?_
    rintro e w3 ⟨rfl, R3, hm3, hl3⟩
    have hl13 : Lw P R R3 (w.alloc zst) w3 := HW1.out ▸ HL2.out.trans hl3
    obtain ⟨⟨z0, z1, z2, z3, z4, z5, z6, z7, z8, z9⟩, zf⟩ := zcells HM0.out hl13
    have f0 := zf 0; have f1 := zf 1; have f2 := zf 2; have f3 := zf 3; have f4 := zf 4; have f5 := zf 5; have f6 := zf 6; have f7 := zf 7; have f8 := zf 8; have f9 := zf 9
    obtain ⟨r1, r2⟩ := fin_step HM0.out hm3 hl13 3 0 (p : Int) (z : Int) 0 0 0 ⟨#[61, 61]⟩ ⟨#[]⟩ [] none 0 0 (ArAt.none _ _)
    have HR : Hid (_ = _) := r1
    have HE : Hid (LsP P R mb w x s' _ _) := HX.out ▸ r2
    rw [Hid, ← HG.out] at HE
    have HE2 : Hid (G _ _) := HE
    clear HE hm3 hl3 hl13 r1 r2 zf c4
    go_wp2
    refine bodyPost_ret (qQ Tryz.results241 _ _ w.heap.size _ _ _ _ _ _ _ _ _ _ rfl HR.out) rfl ?_
    exact HE2.out
end Go.Proofs.YtnfhpdbbfejioaaGreatDoor.Mid
