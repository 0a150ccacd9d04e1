/- Assemble, walked, where no line is at fault. -/
import Derived.Test.YtjjjdplgdlaihaaGreatDoorMK
import Derived.Test.YtjjjdplgdlaihaaGreatDoorMF
import Derived.Maps.OwnIn
import Derived.Maps.AppendAt
import Derived.RangeFuncBox
namespace Go.Proofs.YtjjjdplgdlaihaaGreatDoor
set_option linter.unusedVariables false
open Go Go.RowKit Go.Shelf
attribute [local go_sem] Oper.semAt_some

theorem info57 : (Tryz.prog.info? 71).map (fun i => (i.zero, i.size, i.bytes)) = some (some (drV zeroD 0), 7, 64) := by kernel_rfl

/-- What Assemble holds between two lines. -/
structure AI (w : World) (O : Nat) (pre : List Ln) (ds : Drafts) (ps : Places) (v : Value) (W : World) : Prop where
  st : stV pre = .ok (ds, ps)
  b0 : Boxed W O 22 (.slice none 0 0)
  b1 : Boxed W (O + 1) 29 .nilIface
  b2 : Boxed W (O + 1 + 1) 62 v
  row : W.ownsRow O 71 7 v ds.length (dcs ds)
  b4 : Boxed W (O + 1 + 1 + 1 + 1) 53 (.map (some (O + 1 + 1 + 1)))
  pl : PlAt W (O + 1 + 1 + 1) pre.length ps
  low : Below O w W

/-- What a round keeps. -/
theorem from_below {B : Nat} {W W' : World} (h : Below W.heap.size W W') : KeepsFrom B W W' :=
  ⟨h.size, fun k o _ hk _ => (h.block k (Array.getElem?_eq_some_iff.1 hk).1).trans hk⟩

theorem row_none (v : Value) : v.ownBlock = none ∨ v.ownBlock ≠ none := Classical.em _
theorem grown_of_below {W W' : World} (hb : Below W.heap.size W W') : W.grownBy W' none := ⟨hb.os, hb.tape, hb.output, hb.size, fun k hk _ => hb.block k hk⟩
theorem AI.kept {w : World} {O : Nat} {pre : List Ln} {ds : Drafts} {ps : Places} {v : Value} {W W' : World} (h : AI w O pre ds ps v W) (hb : Below W.heap.size W W') : AI w O pre ds ps v W' :=
  ⟨h.st, (hb.block _ h.b0.lt).trans h.b0, (hb.block _ h.b1.lt).trans h.b1, (hb.block _ h.b2.lt).trans h.b2, World.ownsRow.kept h.row (grown_of_below hb) (row_none _), (hb.block _ h.b4.lt).trans h.b4, World.ownsMap.kept h.pl (grown_of_below hb) (by simp), h.low.trans (hb.mono (Nat.le_of_lt h.b0.lt))⟩

theorem row_other {W : World} {B : Nat} {e : TypeId} {size n : Nat} {v : Value} {xs : List Value} (h : W.ownsRow B e size v n xs) {r : Nat} {o : Obj} (ho : W.heap[r]? = some o) (hc : o.isCells = false) : v.ownBlock = none ∨ v.ownBlock ≠ some r := by
  rcases h.2 with ⟨rfl, _⟩ | ⟨g, cap, cur, rfl, _, hh, _⟩
  · left; rfl
  · right
    intro e
    simp [Value.ownBlock] at e
    subst e
    rw [hh] at ho
    injection ho with ho
    subst ho
    cases hc
theorem AI.own {w : World} {O : Nat} (B : Nat) (hB : O + 6 ≤ B) : OwnFrom B (fun pre W => ∃ ds ps v, AI w O pre ds ps v W) := by
  rintro pre W W' row ⟨ds, ps, v, h⟩ hg hr
  have ne : ∀ b, b < O + 6 → some b ≠ row := fun b hb e => by have := (hr b e.symm).1; omega
  refine ⟨ds, ps, v, h.st, h.b0.kept hg (ne _ (by omega)), h.b1.kept hg (ne _ (by omega)), h.b2.kept hg (ne _ (by omega)), ?_, h.b4.kept hg (ne _ (by omega)), World.ownsMap.kept h.pl hg (ne _ (by omega)), ?_⟩
  · refine World.ownsRow.kept h.row hg ?_
    cases row with
    | none => exact row_none _
    | some r => obtain ⟨_, o, ho, hc⟩ := hr r rfl; exact row_other h.row ho hc
  · exact h.low.grown hg (Nat.le_of_lt h.b0.lt) (fun k e => by have := (hr k e).1; omega)
/-- The place's block is no row of cells. -/
theorem AI.map {w : World} {O : Nat} {pre : List Ln} {ds : Drafts} {ps : Places} {v : Value} {W : World} (h : AI w O pre ds ps v W) : ∃ o, W.heap[O + 1 + 1 + 1]? = some o ∧ o.isCells = false := by
  obtain ⟨es, c, hh, _⟩ := h.pl
  exact ⟨_, hh, rfl⟩
/-- .. behind a place that is noted. -/
theorem AI.noted {w : World} {O : Nat} {pre : List Ln} {ds : Drafts} {ps ps' : Places} {v : Value} {W W' : World} (x : Ln) (h : AI w O pre ds ps v W) (hg : W.grownBy W' (some (O + 1 + 1 + 1))) (hp : PlAt W' (O + 1 + 1 + 1) (pre.length + 1) ps') (hs : stV (pre ++ [x]) = .ok (ds, ps')) : AI w O (pre ++ [x]) ds ps' v W' := by
  obtain ⟨o, ho, hc⟩ := h.map
  refine ⟨hs, h.b0.kept hg (by simp; omega), h.b1.kept hg (by simp), h.b2.kept hg (by simp), World.ownsRow.kept h.row hg (row_other h.row ho hc), h.b4.kept hg (by simp), by simpa using hp, ?_⟩
  exact h.low.grown hg (Nat.le_of_lt h.b0.lt) (fun k e => by cases e; omega)
theorem row_slice {W : World} {B : Nat} {e : TypeId} {size n : Nat} {v : Value} {xs : List Value} (h : W.ownsRow B e size v n xs) : ∃ q c, v = .slice q n c := by
  rcases h.2 with ⟨rfl, rfl⟩ | ⟨g, cap, cur, rfl, _, hh, _⟩
  · exact ⟨_, _, rfl⟩
  · exact ⟨_, _, rfl⟩

/-- The cells of what is handed back, ahead of a fault's two stores. -/
structure Outs (O : Nat) (W : World) : Prop where
  d0 : ∀ A, (W.alloc A).cell? ⟨O, 0, none⟩ = some (.slice none 0 0)
  g0 : ∀ A, (W.alloc A).frozen? ⟨O, 0, none⟩ = false
  d1 : ∀ A v, ((W.alloc A).setCell ⟨O, 0, none⟩ v).cell? ⟨O + 1, 0, none⟩ = some .nilIface
  g1 : ∀ A v, ((W.alloc A).setCell ⟨O, 0, none⟩ v).frozen? ⟨O + 1, 0, none⟩ = false
theorem outs_of {O : Nat} {W : World} (h0 : Boxed W O 22 (.slice none 0 0)) (h1 : Boxed W (O + 1) 29 .nilIface) : Outs O W := by
  have k1 : ∀ A v, Boxed ((W.alloc A).setCell ⟨O, 0, none⟩ v) (O + 1) 29 .nilIface := fun A v => (h1.alloc A).kept (grownBy_setCell' _ O v) (by simp)
  exact ⟨fun A => (h0.alloc A).cell, fun A => (h0.alloc A).frozen, fun A v => (k1 A v).cell, fun A v => (k1 A v).frozen⟩

/-- .. where a draft was made besides. -/
structure OutsD (O : Nat) (W : World) : Prop where
  d0 : ∀ A B, ((W.alloc A).alloc B).cell? ⟨O, 0, none⟩ = some (.slice none 0 0)
  g0 : ∀ A B, ((W.alloc A).alloc B).frozen? ⟨O, 0, none⟩ = false
  d1 : ∀ A B v, (((W.alloc A).alloc B).setCell ⟨O, 0, none⟩ v).cell? ⟨O + 1, 0, none⟩ = some .nilIface
  g1 : ∀ A B v, (((W.alloc A).alloc B).setCell ⟨O, 0, none⟩ v).frozen? ⟨O + 1, 0, none⟩ = false
theorem outsD_of {O : Nat} {W : World} (h0 : Boxed W O 22 (.slice none 0 0)) (h1 : Boxed W (O + 1) 29 .nilIface) : OutsD O W := by
  have k1 : ∀ A B v, Boxed (((W.alloc A).alloc B).setCell ⟨O, 0, none⟩ v) (O + 1) 29 .nilIface := fun A B v => ((h1.alloc A).alloc B).kept (grownBy_setCell' _ O v) (by simp)
  exact ⟨fun A B => ((h0.alloc A).alloc B).cell, fun A B => ((h0.alloc A).alloc B).frozen, fun A B v => (k1 A B v).cell, fun A B v => (k1 A B v).frozen⟩

/-- .. behind a draft that is laid by. -/
theorem AI.laid {w : World} {O : Nat} {pre : List Ln} {ds : Drafts} {ps : Places} {v v' : Value} {W w2 w3 : World} {A B : Obj} (x : Ln) (e : Dr × Nat) (h : AI w O pre ds ps v W) (hb : Below W.heap.size W w2)
    (hown : w3.ownsRow O 71 7 v' (ds.length + 1) (dcs ds ++ (drC e.1 e.2).toList)) (hg : ((w2.alloc A).alloc B).grownBy w3 v.ownBlock) (hs : stV (pre ++ [x]) = .ok (ds ++ [e], ps)) :
    Boxed w3 (O + 1 + 1) 62 v ∧ AI w O (pre ++ [x]) (ds ++ [e]) ps v' (w3.setCell ⟨O + 1 + 1, 0, none⟩ v') ∧ (∀ B', KeepsFrom B' W (w3.setCell ⟨O + 1 + 1, 0, none⟩ v')) ∧ Below O W (w3.setCell ⟨O + 1 + 1, 0, none⟩ v') := by
  have hA : AI w O pre ds ps v (w2.alloc A) := h.kept (hb.alloc hb.size A)
  have hO : O ≤ (w2.alloc A).heap.size := Nat.le_of_lt hA.b0.lt
  obtain ⟨k1, k2, k3, k4, k5⟩ := hA.b2.appended (by decide) hA.row hO (by omega) hown hg
  have far : ∀ {b : Nat} {t : TypeId} {u : Value}, Boxed (w2.alloc A) b t u → t ≠ 71 → b ≠ O + 1 + 1 → Boxed (w3.setCell ⟨O + 1 + 1, 0, none⟩ v') b t u := fun hb' ht hn => ((hb'.alloc B).kept hg ((hb'.alloc B).not_row ht (hA.row.alloc B))).kept (grownBy_setCell' _ _ _) (by simpa using hn)
  have hWA : Below O W (w2.alloc A) := (hb.alloc hb.size A).mono (Nat.le_of_lt h.b0.lt)
  obtain ⟨o, ho, hc⟩ := hA.map
  have hpl : PlAt (w3.setCell ⟨O + 1 + 1, 0, none⟩ v') (O + 1 + 1 + 1) pre.length ps := by
    refine World.ownsMap.kept (World.ownsMap.kept (World.ownsMap.alloc hA.pl B) hg ?_) (grownBy_setCell' _ _ _) (by simp)
    intro e
    rcases row_other (hA.row.alloc B) ((Below.heap_alloc _ B _ (Array.getElem?_eq_some_iff.1 ho).1).trans ho) hc with h0 | h0
    · rw [h0] at e; cases e
    · exact h0 e.symm
  refine ⟨k1, ⟨hs, far hA.b0 (by decide) (by omega), far hA.b1 (by decide) (by omega), k2, ?_, far hA.b4 (by decide) (by omega), World.ownsMap.mono hpl (by simp), hA.low.trans k5⟩, fun B' => (from_below (hb.alloc hb.size A)).trans (k4.from _), hWA.trans k5⟩
  have : dcs (ds ++ [e]) = dcs ds ++ (drC e.1 e.2).toList := dcs_snoc ds e.1 e.2
  rw [this]
  simpa using k3

theorem row_far {W : World} {B : Nat} {e : TypeId} {size n : Nat} {v : Value} {xs : List Value} (h : W.ownsRow B e size v n xs) {r : Nat} (hr : r < B) : v.ownBlock = none ∨ v.ownBlock ≠ some r := by
  rcases h.2 with ⟨rfl, _⟩ | ⟨g, cap, cur, rfl, hg, hh, _⟩
  · left; rfl
  · right
    intro e
    simp [Value.ownBlock] at e
    omega
theorem res7 (tmps : Array Value) (w : World) (O : Nat) (v e : Value) (hp0 : tmps.getD 2 undef = .pointer (some ⟨O, 0, none⟩)) (hp1 : tmps.getD 3 undef = .pointer (some ⟨O + 1, 0, none⟩)) (h0 : Boxed w O 22 v) (h1 : Boxed w (O + 1) 29 e) :
    (results Tryz.f6 tmps).run Tryz.prog w = .ok (.tuple #[v, e]) w := by
  have l0 : (loadVar 22 ⟨O, 0, none⟩).run Tryz.prog w = .ok v w := by
    have := h0.cell
    simp [go_sem, loadVar, this]
  have l1 : (loadVar 29 ⟨O + 1, 0, none⟩).run Tryz.prog w = .ok e w := by
    have := h1.cell
    simp [go_sem, loadVar, this]
  rw [Array.getD_eq_getD_getElem?] at hp0 hp1
  simp only [results, Tryz.results6]
  simp [Sem.run_bind, Result.andThen, hp0, hp1, asAddr, l0, l1]

theorem st_next {pre : List Ln} {ds : Drafts} {ps : Places} (x : Ln) (h : stV pre = .ok (ds, ps)) : stV (pre ++ [x]) = stepV (.ok (ds, ps)) x.1.1 x.1.2.data.toList := by rw [stV_snoc, h]

set_option maxRecDepth 100000 in
set_option maxHeartbeats 4000000 in
theorem assemble_ok (s : ByteArray) (w : World) (he : Env w) (hw : 11 ≤ w.heap.size) (hs : s.size < 4294967280) (out : List Dr) (h : asmV rtD s.data.toList = .ok out) :
    Calls Tryz.prog 6 #[.string s] w fun e w' => ∃ v, e = .returned (.tuple #[v, .nilIface]) ∧ w'.ownsRow w.heap.size 39 5 v out.length (ins out) ∧ Below w.heap.size w w' := by
  obtain ⟨i0, hi0, hz0, hz1, hz2⟩ := info_parts info57
  have hmm := @run_makeMap Tryz.prog
  refine (callsIn_wide (n := 3)).1 ?_
  refine callsIn_of_wp_marks Tryz.func6 rfl trivial ?_ rfl
  simp only [Tryz.ntmps6, List.size_toArray, List.length_cons, List.length_nil, Nat.reduceAdd, Nat.reduceSub, Array.replicate_succ, Array.replicate_zero, List.push_toArray, List.append_toArray, List.nil_append, List.cons_append]
  gi_wp2_with (refine ⟨trivial, ?_⟩; gi_at_call 24; refine (callsIn_wide.2 (lines_any s _)).mono ?_; rintro e w' ⟨rfl, rfl⟩)
  have hm0 := World.ownsMap_made (((w.alloc (.cells #[.slice none 0 0] 22)).alloc (.cells #[.nilIface] 29)).alloc (.cells #[.slice none 0 0] 62)) Tryz.prog 9 (plainElem (H := Unit) Tryz.prog 3)
  have b0 := (((((Boxed.new w 22 (.slice none 0 0)).alloc (.cells #[.nilIface] 29)).alloc (.cells #[.slice none 0 0] 62)).alloc (.map #[] 0)).alloc (.cells #[.map (some (w.heap.size + 1 + 1 + 1))] 53)).alloc (.cells #[.string s] 9)
  have b1 := ((((Boxed.new (w.alloc (.cells #[.slice none 0 0] 22)) 29 .nilIface).alloc (.cells #[.slice none 0 0] 62)).alloc (.map #[] 0)).alloc (.cells #[.map (some (w.heap.size + 1 + 1 + 1))] 53)).alloc (.cells #[.string s] 9)
  have b2 := (((Boxed.new ((w.alloc (.cells #[.slice none 0 0] 22)).alloc (.cells #[.nilIface] 29)) 62 (.slice none 0 0)).alloc (.map #[] 0)).alloc (.cells #[.map (some (w.heap.size + 1 + 1 + 1))] 53)).alloc (.cells #[.string s] 9)
  have b4 := (Boxed.new ((((w.alloc (.cells #[.slice none 0 0] 22)).alloc (.cells #[.nilIface] 29)).alloc (.cells #[.slice none 0 0] 62)).alloc (.map #[] 0)) 53 (.map (some (w.heap.size + 1 + 1 + 1)))).alloc (.cells #[.string s] 9)
  have b5 := Boxed.new (((((w.alloc (.cells #[.slice none 0 0] 22)).alloc (.cells #[.nilIface] 29)).alloc (.cells #[.slice none 0 0] 62)).alloc (.map #[] 0)).alloc (.cells #[.map (some (w.heap.size + 1 + 1 + 1))] 53)) 9 (.string s)
  have hm1 := (hm0.alloc (.cells #[.map (some (w.heap.size + 1 + 1 + 1))] 53)).alloc (.cells #[.string s] 9)
  have hB0 : Below w.heap.size w ((((((w.alloc (.cells #[.slice none 0 0] 22)).alloc (.cells #[.nilIface] 29)).alloc (.cells #[.slice none 0 0] 62)).alloc (.map #[] 0)).alloc (.cells #[.map (some (w.heap.size + 1 + 1 + 1))] 53)).alloc (.cells #[.string s] 9)) :=
    ((((((Below.refl _ w).alloc (Nat.le_refl _) _).alloc (by simp) _).alloc (by simp; omega) _).alloc (by simp; omega) _).alloc (by simp; omega) _).alloc (by simp; omega) _
  have hsz0 : ((((((w.alloc (.cells #[.slice none 0 0] 22)).alloc (.cells #[.nilIface] 29)).alloc (.cells #[.slice none 0 0] 62)).alloc (.map #[] 0)).alloc (.cells #[.map (some (w.heap.size + 1 + 1 + 1))] 53)).alloc (.cells #[.string s] 9)).heap.size = w.heap.size + 6 := by simp
  simp only [World.size_alloc] at b1 b2 b4 b5 hm1
  obtain ⟨W0, hW0⟩ : ∃ W0, (((((w.alloc (.cells #[.slice none 0 0] 22)).alloc (.cells #[.nilIface] 29)).alloc (.cells #[.slice none 0 0] 62)).alloc (.map #[] 0)).alloc (.cells #[.map (some (w.heap.size + 1 + 1 + 1))] 53)).alloc (.cells #[.string s] 9) = W0 := ⟨_, rfl⟩
  rw [hW0] at b0 b1 b2 b4 b5 hm1 hB0 hsz0 ⊢
  clear hW0 hm0 hmm
  have hEw : ∀ W', Below w.heap.size w W' → Env W' := fun W' hb => he.below hb
  have hE0 : ∀ W', Below w.heap.size W0 W' → Env W' := fun W' hb => he.below (hB0.trans hb)
  have hA0 : AI w w.heap.size [] [] [] (.slice none 0 0) W0 := ⟨rfl, b0, b1, b2, World.ownsRow_nil _ _ _ _, b4, hm1, hB0⟩
  have hNb := split_len 10 s.data.toList
  have hsl : s.data.toList.length = s.size := by simp
  obtain ⟨O, hO⟩ : ∃ O, w.heap.size = O := ⟨_, rfl⟩
  rw [hO] at b0 b1 b2 b4 b5 hm1 hB0 hsz0 hEw hE0 hA0 ⊢
  have HO : Hid (w.heap.size = O) := hO
  clear hO b0 b1 b2 b4 hm1
  refine wpIn_rangeFunc_ownG rfl (by omega) (gf := 58) (lb := #[.pointer (some ⟨O + 1 + 1 + 1 + 1 + 1, 0, none⟩)]) rfl trivial (enters_of Tryz.func58 (by kernel_rfl) rfl)
    (lines_stops _ (by omega) (O + 1 + 1 + 1 + 1 + 1) O s hs W0 (by omega) (by omega) b5.cell hE0) belowK_t (belowK_b (by omega)) (Below.refl _ _) (fun _ => rfl)
    (fun pre W => ∃ ds ps v, AI w O pre ds ps v W)
    (fun _ pre _ => ∃ e, stV pre = .error e)
    ?hI (fun _ _ _ _ _ hs _ _ => hs)
    ⟨[], [], _, hA0⟩
    (fun x => { tmps := #[.string s, undef, .pointer (some ⟨O, 0, none⟩), .pointer (some ⟨O + 1, 0, none⟩), .pointer (some ⟨O + 1 + 1, 0, none⟩), .pointer (some ⟨O + 1 + 1 + 1 + 1, 0, none⟩), .int .i64 (x.1.1 : Int), .string x.1.2, undef, undef, undef, undef, undef, .map (some (O + 1 + 1 + 1)), .string s, .func (.func 58) #[] #[.pointer (some ⟨O + 1 + 1 + 1 + 1 + 1, 0, none⟩)], .int .i64 (x.1.1 : Int), .string x.1.2, undef, undef, undef, undef, undef, undef, undef, undef, undef, undef, undef, undef, undef, undef, undef, undef, undef, undef, undef, undef, undef, undef, undef, undef, undef, undef, undef, undef, undef, undef, undef, undef, undef, undef, undef, undef, undef, undef, undef, undef, undef, undef], defers := [] }) ?assign ?body ?done ?stop
  case hI => exact AI.own _ (by omega)
  case assign =>
    intro l x W K hK
    simp only [lnEnc]
    gi_wp2
    exact hK
  case body =>
    rintro l pre ⟨⟨k, line⟩, hk, hln⟩ W ⟨ds, ps, v, hI⟩ hlt
    have hN1 : pre.length < 4294967281 := by omega
    have hln' : line.size < 4294967281 := hln
    have hk' : k < 4294967281 := hk
    obtain ⟨hd1, _, _⟩ := st_bounds _ pre rfl ds ps hI.st
    have hd2 : ds.length < 4294967281 := by omega
    obtain ⟨q, c, rfl⟩ := row_slice hI.row
    have HA : Hid (AI w O pre ds ps (.slice q ds.length c) W) := hI
    have hx : stV (pre ++ [⟨(k, line), hk, hln⟩]) = stepV (.ok (ds, ps)) k line.data.toList := st_next _ hI.st
    have c0 := hI.b0.cell
    have c1 := hI.b1.cell
    have c2 := hI.b2.cell
    have c4 := hI.b4.cell
    have f0 := hI.b0.frozen
    have f1 := hI.b1.frozen
    have f2 := hI.b2.frozen
    dsimp only
    by_cases he0 : line = ⟨#[]⟩
    · subst he0
      have HX : Hid (stV (pre ++ [⟨(k, ⟨#[]⟩), hk, hln⟩]) = .ok (ds, ps)) := by rw [hx]; rfl
      clear hx hI he hE0 hEw hA0 h
      gi_wp2
      exact ⟨KeepsFrom.refl _ _, Below.refl _ _, ds, ps, _, HX.out, HA.out.b0, HA.out.b1, HA.out.b2, HA.out.row, HA.out.b4, World.ownsMap.mono HA.out.pl (by simp), HA.out.low⟩
    · have hne2 : line.toList.isEmpty = false := ba_ne line he0
      have hne3 : line.data.toList ≠ [] := fun e => he0 (by cases line with | mk d => cases d with | mk l => simp at e; subst e; rfl)
      by_cases hl : line.data.toList.getLast? = some 58
      · have HS : Hid (∀ w, Calls Tryz.prog 25 #[.string line, .string ⟨#[58]⟩] w fun e w' => e = .returned (.tuple #[str line.data.toList.dropLast, .bool true]) ∧ w' = w) := fun w => by
          have := Tryz.strings_CutSuffix line ⟨#[58]⟩ w (by omega)
          have e58 : (ByteArray.mk #[58]).data.toList = [58] := rfl
          rw [e58, (suf_yes _ 58 hl).1, (suf_yes _ 58 hl).2] at this
          exact this
        have hdl : line.data.toList.dropLast.length < 4294967281 := by have : line.data.toList.length = line.size := by simp
                                                                       rw [List.length_dropLast]; omega
        have HM := mark_any W (O + 1 + 1 + 1) pre.length ds.length ps ⟨line.data.toList.dropLast.toArray⟩ hI.pl (by unfold maxLen; omega) (by rw [str_size]; unfold maxLen; omega) hd2
        rw [stepV, if_neg hne3, if_pos hl] at hx
        simp only at HM
        generalize line.data.toList.dropLast = nm at *
        have hO6 : O + 1 + 1 + 1 < W0.heap.size := by omega
        have HO6 : Hid (∀ W', W.grownBy W' (some (O + 1 + 1 + 1)) → KeepsFrom W0.heap.size W W' ∧ Below O W W') := fun W' hg => ⟨KeepsFrom.of_grownBy hg (fun j e => by cases e; omega), (Below.refl _ W).grown hg (Nat.le_of_lt HA.out.b0.lt) (fun k e => by cases e; omega)⟩
        have HCC : Hid (∀ W', W.grownBy W' (some (O + 1 + 1 + 1)) → Outs O W') := fun W' hg => outs_of (HA.out.b0.kept hg (by simp; omega)) (HA.out.b1.kept hg (by simp))
        by_cases hnm : nameV nm = false
        · have e1 : mkV nm ps = 3 := by rw [mkV, if_pos hnm]
          rw [e1] at HM
          rw [if_pos hnm] at hx
          have HX : Hid (∃ e, stV (pre ++ [⟨(k, line), hk, hln⟩]) = .error e) := ⟨_, hx⟩
          have HMM : Hid (Calls Tryz.prog 26 #[.map (some (O + 1 + 1 + 1)), str nm, .int .i64 (ds.length : Int)] W fun e w' => e = .returned (.int .i64 3) ∧ W.grownBy w' (some (O + 1 + 1 + 1))) := HM.mono fun e w' ⟨a, _, b⟩ => ⟨a, b⟩
          clear hx hI he hE0 hEw hA0 h HM e1 hnm
          gi_wp2_with (first
            | (refine ⟨trivial, ?_⟩; gi_at_call 25; refine (CallsIn.inRound l (callsIn_wide.2 (HS.out _))).mono ?_; rintro e W ⟨rfl, rfl⟩)
            | (refine ⟨trivial, ?_⟩; gi_at_call 26; refine (CallsIn.inRound l (callsIn_wide.2 HMM.out)).mono ?_; rintro e w2 ⟨rfl, hg2⟩; obtain ⟨d0, g0, d1, g1⟩ := HCC.out w2 hg2))
          exact ⟨((HO6.out _ hg2).1.trans ((KeepsOthers.alloc _ _).from _)).trans (((KeepsOthers.setCell _ _ _).from _).trans ((KeepsOthers.setCell _ _ _).from _)), HX.out⟩
        · rw [if_neg hnm] at hx
          by_cases hlk : (ps.lookup nm).isSome
          · have e1 : mkV nm ps = 9 := by rw [mkV, if_neg hnm, if_pos hlk]
            rw [e1] at HM
            rw [if_pos hlk] at hx
            have HX : Hid (∃ e, stV (pre ++ [⟨(k, line), hk, hln⟩]) = .error e) := ⟨_, hx⟩
            have HMM : Hid (Calls Tryz.prog 26 #[.map (some (O + 1 + 1 + 1)), str nm, .int .i64 (ds.length : Int)] W fun e w' => e = .returned (.int .i64 9) ∧ W.grownBy w' (some (O + 1 + 1 + 1))) := HM.mono fun e w' ⟨a, _, b⟩ => ⟨a, b⟩
            clear hx hI he hE0 hEw hA0 h HM e1 hnm
            gi_wp2_with (first
              | (refine ⟨trivial, ?_⟩; gi_at_call 25; refine (CallsIn.inRound l (callsIn_wide.2 (HS.out _))).mono ?_; rintro e W ⟨rfl, rfl⟩)
              | (refine ⟨trivial, ?_⟩; gi_at_call 26; refine (CallsIn.inRound l (callsIn_wide.2 HMM.out)).mono ?_; rintro e w2 ⟨rfl, hg2⟩; obtain ⟨d0, g0, d1, g1⟩ := HCC.out w2 hg2))
            exact ⟨((HO6.out _ hg2).1.trans ((KeepsOthers.alloc _ _).from _)).trans (((KeepsOthers.setCell _ _ _).from _).trans ((KeepsOthers.setCell _ _ _).from _)), HX.out⟩
          · have e1 : mkV nm ps = 0 := by rw [mkV, if_neg hnm, if_neg hlk]
            have e2 : mkP nm ds.length ps = (nm, ds.length) :: ps := by rw [mkP, if_neg hnm, if_neg hlk]
            rw [e1, e2] at HM
            rw [if_neg hlk] at hx
            have HX : Hid (stV (pre ++ [⟨(k, line), hk, hln⟩]) = .ok (ds, (nm, ds.length) :: ps)) := hx
            have HMM : Hid (Calls Tryz.prog 26 #[.map (some (O + 1 + 1 + 1)), str nm, .int .i64 (ds.length : Int)] W fun e w' => e = .returned (.int .i64 0) ∧ PlAt w' (O + 1 + 1 + 1) (pre.length + 1) ((nm, ds.length) :: ps) ∧ W.grownBy w' (some (O + 1 + 1 + 1))) := HM
            clear hx hI he hE0 hEw hA0 h HM e1 e2 hnm hlk
            gi_wp2_with (first
              | (refine ⟨trivial, ?_⟩; gi_at_call 25; refine (CallsIn.inRound l (callsIn_wide.2 (HS.out _))).mono ?_; rintro e W ⟨rfl, rfl⟩)
              | (refine ⟨trivial, ?_⟩; gi_at_call 26; refine (CallsIn.inRound l (callsIn_wide.2 HMM.out)).mono ?_; rintro e w2 ⟨rfl, hp2, hg2⟩; have HP2 : Hid (PlAt w2 (O + 1 + 1 + 1) (pre.length + 1) ((nm, ds.length) :: ps)) := hp2; have HG2 : Hid (W.grownBy w2 (some (O + 1 + 1 + 1))) := hg2; clear hp2 hg2))
            exact ⟨(HO6.out _ HG2.out).1, (HO6.out _ HG2.out).2, ds, _, _, HA.out.noted _ HG2.out HP2.out HX.out⟩
      · have HS : Hid (∀ w, Calls Tryz.prog 25 #[.string line, .string ⟨#[58]⟩] w fun e w' => ∃ x, e = .returned (.tuple #[.string x, .bool false]) ∧ w' = w) := fun w => by
          have := Tryz.strings_CutSuffix line ⟨#[58]⟩ w (by omega)
          have e58 : (ByteArray.mk #[58]).data.toList = [58] := rfl
          rw [e58, suf_no _ 58 hl] at this
          exact this.mono fun e w' ⟨a, b⟩ => ⟨_, a, b⟩
        rw [stepV, if_neg hne3, if_neg hl] at hx
        have HR := read_any line W (hEw W HA.out.low) (by have := HA.out.b0.lt; have := HO.out; omega) hln'
        cases hrd : readV line.data.toList with
        | none =>
          rw [hrd] at hx HR
          have HX : Hid (∃ e, stV (pre ++ [⟨(k, line), hk, hln⟩]) = .error e) := ⟨_, hx⟩
          have HRR : Hid (Calls Tryz.prog 27 #[.string line] W fun e w' => ∃ (o d a b n : Int) (pl : ByteArray), e = .returned (.tuple #[.agg #[.int .i64 o, .int .i64 d, .int .i64 a, .int .i64 b, .int .i64 n, .string pl, .int .i64 0], .bool false]) ∧ Below W.heap.size W w' ∧ Outs O w' ∧ OutsD O w') := HR.mono fun e w' ⟨hb, d, he⟩ => ⟨_, _, _, _, _, _, he, hb, outs_of ((hb.block _ HA.out.b0.lt).trans HA.out.b0) ((hb.block _ HA.out.b1.lt).trans HA.out.b1), outsD_of ((hb.block _ HA.out.b0.lt).trans HA.out.b0) ((hb.block _ HA.out.b1.lt).trans HA.out.b1)⟩
          clear hx hI he hE0 hEw hA0 h HR hrd hne3
          gi_wp2_with (first
            | (refine ⟨trivial, ?_⟩; gi_at_call 25; refine (CallsIn.inRound l (callsIn_wide.2 (HS.out _))).mono ?_; rintro e W ⟨x14, rfl, rfl⟩)
            | (refine ⟨trivial, ?_⟩; gi_at_call 27; refine (CallsIn.inRound l (callsIn_wide.2 HRR.out)).mono ?_; rintro e w2 ⟨o2, d2, a2, n2, m2, pl2, rfl, hb2, HO2, ⟨d0, g0, d1, g1⟩⟩))
          exact ⟨(from_below hb2).trans (KeepsOthers.from (((KeepsOthers.alloc _ _).trans (KeepsOthers.alloc _ _)).trans ((KeepsOthers.setCell _ _ _).trans (KeepsOthers.setCell _ _ _))) _), HX.out⟩
        | some d =>
          rw [hrd] at hx HR
          obtain ⟨o1, d1, a1, n1, m1, pl1⟩ := d
          have HX : Hid (stV (pre ++ [⟨(k, line), hk, hln⟩]) = .ok (ds ++ [(⟨o1, d1, a1, n1, m1, pl1⟩, k)], ps)) := hx
          generalize hpl : (⟨pl1.toArray⟩ : ByteArray) = pb at *
          have HPB : Hid ((⟨pl1.toArray⟩ : ByteArray) = pb) := hpl
          have HRR : Hid (Calls Tryz.prog 27 #[.string line] W fun e w' => e = .returned (.tuple #[.agg #[.int .i64 o1, .int .i64 d1, .int .i64 a1, .int .i64 n1, .int .i64 m1, .string pb, .int .i64 0], .bool true]) ∧ Below W.heap.size W w' ∧ (∀ A, (w'.alloc A).cell? ⟨O + 1 + 1, 0, none⟩ = some (.slice q ds.length c)) ∧ O ≤ w'.heap.size) := HR.mono fun e w' ⟨hb, he⟩ => ⟨by rw [← hpl]; exact he, hb, fun A => Boxed.cell (Boxed.alloc ((hb.block _ HA.out.b2.lt).trans HA.out.b2) A), by have := HA.out.b0.lt; have := hb.size; omega⟩
          have HRow : Hid (∀ w' A B, Below W.heap.size W w' → ((w'.alloc A).alloc B).ownsRow O 71 7 (.slice q ds.length c) ds.length (dcs ds)) := fun w' A B hb => ((HA.out.kept hb).row.alloc A).alloc B
          have H17 : Hid (∀ u ∈ [Value.int .i64 o1, .int .i64 d1, .int .i64 a1, .int .i64 n1, .int .i64 m1, .string pb, .int .i64 (k : Int)], u.oneCell' = true) := fun u hu => by simp at hu; rcases hu with rfl | rfl | rfl | rfl | rfl | rfl | rfl <;> rfl
          have HN7 : Hid (∀ (w' : World), ∀ (j : Nat) (x : Value), [Value.int .i64 o1, .int .i64 d1, .int .i64 a1, .int .i64 n1, .int .i64 m1, .string pb, .int .i64 (k : Int)][j]? = some x → (w'.alloc (.cells #[.int .i64 o1, .int .i64 d1, .int .i64 a1, .int .i64 n1, .int .i64 m1, .string pb, .int .i64 (k : Int)] 71)).cell? ((⟨w'.heap.size, 0, none⟩ : Addr).add j) = some x) := fun w' => World.news_of_block (cs := #[.int .i64 o1, .int .i64 d1, .int .i64 a1, .int .i64 n1, .int .i64 m1, .string pb, .int .i64 (k : Int)]) (t := 71) (fr := (0, 0)) (heap_alloc_last w' _)
          clear hx hI he hE0 hEw hA0 h HR hrd hne3 hpl
          gi_wp2_with (first
            | (refine ⟨trivial, ?_⟩; gi_at_call 25; refine (CallsIn.inRound l (callsIn_wide.2 (HS.out _))).mono ?_; rintro e W ⟨x14, rfl, rfl⟩)
            | (refine ⟨trivial, ?_⟩; gi_at_call 27; refine (CallsIn.inRound l (callsIn_wide.2 HRR.out)).mono ?_; rintro e w2 ⟨rfl, hb2, hc2, hs2⟩; have HB2 : Hid (Below W.heap.size W w2) := hb2; clear hb2)
            | (gi_at_builtin; refine wpListIn_append_own _ rfl _ _ 62 rfl O 71 i0 _ 7 64 Tryz.underlying62 hi0 hz0 hz1 hz2 rfl (by decide) _ ds.length _ rfl (HRow.out _ _ _ HB2.out) ⟨w2.heap.size + 1, 0, none⟩ 1 1 [.int .i64 o1, .int .i64 d1, .int .i64 a1, .int .i64 n1, .int .i64 m1, .string pb, .int .i64 (k : Int)] rfl rfl (by have := HN7.out (w2.alloc (.cells #[.int .i64 o1, .int .i64 d1, .int .i64 a1, .int .i64 n1, .int .i64 m1, .string pb, .int .i64 (k : Int)] 71)); simpa only [World.size_alloc] using this) H17.out (by unfold maxLen; omega) (by omega) (by simp; omega) ?_))
          intro v' w3 hown hgrow _
          obtain ⟨g', cap', rfl⟩ := ownsRow_succ hown
          obtain ⟨r1, r2, r3, r4⟩ := HA.out.laid ⟨(k, line), hk, hln⟩ (⟨o1, d1, a1, n1, m1, pl1⟩, k) HB2.out (by
            have e5 : str pl1 = .string pb := congrArg Value.string HPB.out
            show w3.ownsRow O 71 7 _ _ (dcs ds ++ [.int .i64 o1, .int .i64 d1, .int .i64 a1, .int .i64 n1, .int .i64 m1, str pl1, .int .i64 (k : Int)])
            rw [e5]
            exact hown) hgrow HX.out
          have R : Hid (AI w O (pre ++ [⟨(k, line), hk, hln⟩]) (ds ++ [(⟨o1, d1, a1, n1, m1, pl1⟩, k)]) ps (.slice (some ⟨g', 0, none⟩) (ds.length + 1) cap') (w3.setCell ⟨O + 1 + 1, 0, none⟩ (.slice (some ⟨g', 0, none⟩) (ds.length + 1) cap')) ∧ KeepsFrom W0.heap.size W (w3.setCell ⟨O + 1 + 1, 0, none⟩ (.slice (some ⟨g', 0, none⟩) (ds.length + 1) cap')) ∧ Below O W (w3.setCell ⟨O + 1 + 1, 0, none⟩ (.slice (some ⟨g', 0, none⟩) (ds.length + 1) cap'))) := ⟨r2, r3 _, r4⟩
          have hc3 := r1.cell
          have hf3 := r1.frozen
          clear r1 r2 r3 r4 hown hgrow
          gi_wp2
          exact ⟨R.out.2.1, R.out.2.2, _, _, _, R.out.1⟩
  case done =>
    rintro D ys W hD rfl ⟨ds, ps, v, hI⟩ hK
    have hst := hI.st
    rw [st_all _ (by omega)] at hst
    unfold asmV at h
    rw [hst] at h
    obtain ⟨hd1, hd2, hd3⟩ := st_bounds _ _ rfl ds ps hI.st
    rw [upto_length] at hd1 hd2
    have hfo : FinOk ds ps out := finOk_of ds ps out h (fun x hx => by have := hd2 x hx; omega) (fun x hx => by have := hd3 x hx; omega)
    have hlen : out.length = ds.length := hfo.1
    obtain ⟨q, c, rfl⟩ := row_slice hI.row
    have HA : Hid (AI w O (upto s.data.toList (splitC 10 s.data.toList).length) ds ps (.slice q ds.length c) W) := hI
    have HF : Hid (Calls Tryz.prog 28 #[.slice q ds.length c, .map (some (O + 1 + 1 + 1))] W fun e w' => ∃ v, e = .returned (.tuple #[v, .nilIface]) ∧ w'.ownsRow W.heap.size 39 5 v ds.length (ins out) ∧ Below W.heap.size W w') := by
      by_cases h0 : 0 < ds.length
      · obtain ⟨g, c', e⟩ : ∃ g c', Value.slice q ds.length c = .slice (some ⟨g, 0, none⟩) ds.length c' := by
          rcases hI.row.2 with ⟨_, h1⟩ | ⟨g, cap, cur, e, _⟩
          · omega
          · exact ⟨g, cap, e⟩
        injection e with e1 _ e3
        subst e1; subst e3
        exact finish_ok W _ g c _ _ ds ps out (hEw W hI.low) (by omega) (fun _ => rfl) (World.block_lt_of_cell? W _ (seven_of hI.row 0 _ _ (List.getElem?_eq_getElem h0)).c0) (fun i d k hd => seven_of hI.row i d k hd) hI.pl hfo
      · exact finish_ok W q 0 c _ _ ds ps out (hEw W hI.low) (by omega) (fun hh => absurd hh h0) (by have := hI.b0.lt; omega) (fun i d k hd => by
          have := (List.getElem?_eq_some_iff.1 hd).1; omega) hI.pl hfo
    have c0 := hI.b0.cell
    have c1 := hI.b1.cell
    have c2 := hI.b2.cell
    have c4 := hI.b4.cell
    clear hI he hE0 hEw hA0 h hst hfo
    gi_wp2_with (refine ⟨trivial, ?_⟩; gi_at_call 28; refine (callsIn_wide.2 HF.out).mono ?_; rintro e w2 ⟨v2, rfl, hr2, hb2⟩; obtain ⟨q2, e2, rfl⟩ := row_slice hr2; have k0 : Boxed w2 O 22 (.slice none 0 0) := (hb2.block _ HA.out.b0.lt).trans HA.out.b0; have k1 : Boxed w2 (O + 1) 29 .nilIface := (hb2.block _ HA.out.b1.lt).trans HA.out.b1; have m0 := k0.cell; have m1 := k0.frozen; have k1' : ∀ v, Boxed (w2.setCell ⟨O, 0, none⟩ v) (O + 1) 29 .nilIface := fun v => k1.kept (grownBy_setCell' _ O v) (by simp); have m2 : ∀ v, (w2.setCell ⟨O, 0, none⟩ v).cell? ⟨O + 1, 0, none⟩ = some .nilIface := fun v => (k1' v).cell; have m3 : ∀ v, (w2.setCell ⟨O, 0, none⟩ v).frozen? ⟨O + 1, 0, none⟩ = false := fun v => (k1' v).frozen)
    have hK2 : w2.heap[D]? = some (.deferred (some [])) := (hb2.block D (Array.getElem?_eq_some_iff.1 hK).1).trans hK
    have hK3 := ((KeepsOthers.setCell w2 ⟨O, 0, none⟩ (.slice q2 ds.length e2)).trans (KeepsOthers.setCell _ ⟨O + 1, 0, none⟩ .nilIface)).same D _ hK2 rfl
    have hD2 : O + 6 ≤ D := by omega
    refine ⟨by simp, .inl ⟨_, _, rfl, run_takeDeferred hK3, ?_⟩⟩
    have p0 : Boxed ((w2.setCell ⟨O, 0, none⟩ (.slice q2 ds.length e2)).setCell ⟨O + 1, 0, none⟩ .nilIface) O 22 (.slice q2 ds.length e2) := (k0.set _).kept (grownBy_setCell' _ _ _) (by simp)
    have p1 : Boxed ((w2.setCell ⟨O, 0, none⟩ (.slice q2 ds.length e2)).setCell ⟨O + 1, 0, none⟩ .nilIface) (O + 1) 29 .nilIface := (k1' _).set _
    have hrow : ((w2.setCell ⟨O, 0, none⟩ (.slice q2 ds.length e2)).setCell ⟨O + 1, 0, none⟩ .nilIface).ownsRow W.heap.size 39 5 (.slice q2 ds.length e2) ds.length (ins out) :=
      World.ownsRow.kept (World.ownsRow.kept hr2 (grownBy_setCell' _ _ _) (row_far hr2 HA.out.b0.lt)) (grownBy_setCell' _ _ _) (row_far hr2 HA.out.b1.lt)
    have hbe : Below O w ((w2.setCell ⟨O, 0, none⟩ (.slice q2 ds.length e2)).setCell ⟨O + 1, 0, none⟩ .nilIface) := ((HA.out.low.trans (hb2.mono (Nat.le_of_lt HA.out.b0.lt))).setCell (p := ⟨O, 0, none⟩) (Nat.le_refl _) _).setCell (p := ⟨O + 1, 0, none⟩) (Nat.le_succ _) _
    refine ⟨_, res7 _ _ O _ _ rfl rfl (p0.kept (grownBy_putObj' _ D _) (by simp; omega)) (p1.kept (grownBy_putObj' _ D _) (by simp; omega)), _, rfl, ?_, ?_⟩
    · rw [HO.out, hlen]
      exact row_base (World.ownsRow.kept hrow (grownBy_putObj' _ D _) (row_other hrow hK3 rfl)) (Nat.le_of_lt HA.out.b0.lt)
    · rw [HO.out]
      exact hbe.grown (grownBy_putObj' _ D _) (by have := p0.lt; omega) (fun k e => by cases e; omega)
  case stop =>
    rintro D c pre W _ hp ⟨e, he'⟩ _
    exfalso
    have h1 := st_prefix _ _ _ hp e he'
    rw [st_all _ (by omega)] at h1
    unfold asmV at h
    rw [h1] at h
    cases h
end Go.Proofs.YtjjjdplgdlaihaaGreatDoor
