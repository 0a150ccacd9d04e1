/- Assemble, walked, where a line or a draft is at fault: the first one is told. -/
import Derived.Test.YtjjjdplgdlaihaaGreatDoorS1
import Derived.Test.YtjjjdplgdlaihaaGreatDoorF2
namespace Go.Proofs.YtjjjdplgdlaihaaGreatDoor
set_option linter.unusedVariables false
open Go Go.RowKit Go.Shelf
attribute [local go_sem] Oper.semAt_some

/-- Of drafts of which one is at fault: those ahead, and that one. -/
theorem fin_err (ps : Places) (hp : ∀ x ∈ ps, x.2 < 4294967281) : ∀ (ds : Drafts) (i : Nat) (cd : Int) (ln : Nat), (∀ x ∈ ds, x.1.pl.length < 4294967281) → finV rtD ps i ds = .error (cd, ln) →
    ∃ I, I < ds.length ∧ (∃ out, finV rtD ps i (ds.take I) = .ok out) ∧ ∃ d : Dr, ds[I]? = some (d, ln) ∧ ((cd = 7 ∧ d.pl ≠ [] ∧ ps.lookup d.pl = none) ∨ (cd = 2 ∧ ∃ N : Int, Rt d.o d.d d.a d.b N = false ∧ ((d.pl = [] ∧ N = d.n) ∨ (d.pl ≠ [] ∧ ∃ j : Nat, ps.lookup d.pl = some j ∧ N = 4 * ((j : Int) - ((i + I : Nat) : Int))))))
  | [], i, cd, ln, _, h => by rw [finV] at h; cases h
  | (d, k) :: ds, i, cd, ln, hd, h => by
    have go : ∀ (y : Dr), (finV rtD ps (i + 1) ds).map (y :: ·) = .error (cd, ln) → (∀ out, finV rtD ps (i + 1) (ds.take 0) = .ok out ∨ True) → (∀ I out, finV rtD ps (i + 1) (ds.take I) = .ok out → ∃ o2, finV rtD ps i (((d, k) :: ds).take (I + 1)) = .ok o2) →
        ∃ I, I < ((d, k) :: ds).length ∧ (∃ out, finV rtD ps i (((d, k) :: ds).take I) = .ok out) ∧ ∃ d' : Dr, ((d, k) :: ds)[I]? = some (d', ln) ∧ ((cd = 7 ∧ d'.pl ≠ [] ∧ ps.lookup d'.pl = none) ∨ (cd = 2 ∧ ∃ N : Int, Rt d'.o d'.d d'.a d'.b N = false ∧ ((d'.pl = [] ∧ N = d'.n) ∨ (d'.pl ≠ [] ∧ ∃ j : Nat, ps.lookup d'.pl = some j ∧ N = 4 * ((j : Int) - ((i + I : Nat) : Int)))))) := fun y hy _ hok => by
      have he : finV rtD ps (i + 1) ds = .error (cd, ln) := by
        cases hx : finV rtD ps (i + 1) ds with
        | error e => rw [hx] at hy; injection hy with hy; rw [hy]
        | ok z => rw [hx] at hy; cases hy
      obtain ⟨I, h1, ⟨out, h2⟩, d', h3, h4⟩ := fin_err ps hp ds (i + 1) cd ln (fun x hx => hd x (by simp [hx])) he
      refine ⟨I + 1, by simp; omega, hok I out h2, d', by simpa using h3, ?_⟩
      rcases h4 with h4 | ⟨h4, N, h5, h6 | ⟨h6, j, h7, h8⟩⟩
      · exact .inl h4
      · exact .inr ⟨h4, N, h5, .inl h6⟩
      · exact .inr ⟨h4, N, h5, .inr ⟨h6, j, h7, by rw [h8]; congr 2; omega⟩⟩
    have h' := h
    rw [finV] at h
    by_cases hpl : d.pl = []
    · rw [if_pos hpl] at h
      cases hr : rtD d with
      | false =>
        rw [hr] at h
        injection h with h
        injection h with h1 h2
        subst h1; subst h2
        exact ⟨0, by simp, ⟨[], rfl⟩, d, rfl, .inr ⟨rfl, d.n, hr, .inl ⟨hpl, rfl⟩⟩⟩
      | true =>
        rw [hr, if_pos rfl] at h
        refine go d h (fun _ => .inr trivial) (fun I out hI => ⟨d :: out, ?_⟩)
        rw [List.take_succ_cons, finV, if_pos hpl, hr, if_pos rfl, hI]
        rfl
    · rw [if_neg hpl] at h
      cases hl : ps.lookup d.pl with
      | none =>
        rw [hl] at h
        injection h with h
        injection h with h1 h2
        subst h1; subst h2
        exact ⟨0, by simp, ⟨[], rfl⟩, d, rfl, .inl ⟨rfl, hpl, hl⟩⟩
      | some j =>
        rw [hl] at h
        simp only at h
        cases hr : rtD { d with n := 4 * ((j : Int) - i), pl := [] } with
        | false =>
          rw [hr] at h
          injection h with h
          injection h with h1 h2
          subst h1; subst h2
          exact ⟨0, by simp, ⟨[], rfl⟩, d, rfl, .inr ⟨rfl, 4 * ((j : Int) - i), hr, .inr ⟨hpl, j, hl, by simp⟩⟩⟩
        | true =>
          rw [hr, if_pos rfl] at h
          refine go _ h (fun _ => .inr trivial) (fun I out hI => ⟨{ d with n := 4 * ((j : Int) - i), pl := [] } :: out, ?_⟩)
          rw [List.take_succ_cons, finV, if_neg hpl, hl]
          simp only
          rw [hr, if_pos rfl, hI]
          rfl

/-- What is handed back at a fault. -/
structure Told (w : World) (O a : Nat) (cd : Int) (ln : Nat) (W : World) : Prop where
  b0 : Boxed W O 22 (.slice none 0 0)
  b1 : Boxed W (O + 1) 29 (.iface 68 (.pointer (some ⟨a, 0, none⟩)))
  at_ : W.heap[a]? = some (.cells #[.int .i64 cd, .int .i64 (ln : Int)] 69)
  far : O + 2 ≤ a
  low : Below O w W
theorem told_of {w w2 : World} {O : Nat} {cd : Int} {ln : Nat} (h0 : Boxed w2 O 22 (.slice none 0 0)) (h1 : Boxed w2 (O + 1) 29 .nilIface) (hl : Below O w w2) :
    Told w O w2.heap.size cd ln (((w2.alloc (.cells #[.int .i64 cd, .int .i64 (ln : Int)] 69)).setCell ⟨O, 0, none⟩ (.slice none 0 0)).setCell ⟨O + 1, 0, none⟩ (.iface 68 (.pointer (some ⟨w2.heap.size, 0, none⟩)))) := by
  have k0 := h0.alloc (.cells #[.int .i64 cd, .int .i64 (ln : Int)] 69)
  have k1 := h1.alloc (.cells #[.int .i64 cd, .int .i64 (ln : Int)] 69)
  have lt := h1.lt
  refine ⟨(k0.set _).kept (grownBy_setCell' _ _ _) (by simp), (k1.kept (grownBy_setCell' _ _ _) (by simp)).set _, ?_, by omega, ?_⟩
  · rw [(grownBy_setCell' _ (O + 1) _).block w2.heap.size (by simp [World.setCell]) (by simp; omega), (grownBy_setCell' _ O _).block w2.heap.size (by simp) (by simp; omega)]
    exact heap_alloc_last w2 _
  · exact ((hl.alloc (by omega) _).setCell (p := ⟨O, 0, none⟩) (Nat.le_refl _) _).setCell (p := ⟨O + 1, 0, none⟩) (Nat.le_succ _) _
theorem Told.kept {w W W' : World} {O a : Nat} {cd : Int} {ln : Nat} (h : Told w O a cd ln W) {row : Option Nat} (hg : W.grownBy W' row) (hr : ∀ r, row = some r → O + 2 ≤ r ∧ ∃ o : Obj, W.heap[r]? = some o ∧ o.isCells = false) : Told w O a cd ln W' := by
  have ne : ∀ b, b < O + 2 → some b ≠ row := fun b hb e => by have := (hr b e.symm).1; omega
  refine ⟨h.b0.kept hg (ne _ (by omega)), h.b1.kept hg (ne _ (by omega)), ?_, h.far, h.low.grown hg (Nat.le_of_lt h.b0.lt) (fun k e => by have := (hr k e).1; omega)⟩
  rw [hg.block a (Array.getElem?_eq_some_iff.1 h.at_).1 (fun e => by
    obtain ⟨_, o, ho, hc⟩ := hr a e.symm
    rw [h.at_] at ho
    injection ho with ho
    subst ho
    cases hc)]
  exact h.at_

set_option maxRecDepth 100000 in
set_option maxHeartbeats 4000000 in
theorem assemble_err (s : ByteArray) (w : World) (he : Env w) (hw : 11 ≤ w.heap.size) (hs : s.size < 4294967280) (cd : Int) (ln : Nat) (h : asmV rtD s.data.toList = .error (cd, ln)) :
    Calls Tryz.prog 6 #[.string s] w fun e w' => ∃ a, e = .returned (.tuple #[.slice none 0 0, .iface 68 (.pointer (some ⟨a, 0, none⟩))]) ∧ w'.heap[a]? = some (.cells #[.int .i64 cd, .int .i64 (ln : Int)] 69) ∧ Below w.heap.size w w' := by
  obtain ⟨i0, hi0, hz0, hz1, hz2⟩ := info_parts info57
  have hmm := @run_makeMap Tryz.prog
  refine (callsIn_wide (n := 3)).1 ?_
  refine callsIn_of_wp_marks Tryz.func6 rfl trivial ?_ rfl
  simp only [Tryz.ntmps6, List.size_toArray, List.length_cons, List.length_nil, Nat.reduceAdd, Nat.reduceSub, Array.replicate_succ, Array.replicate_zero, List.push_toArray, List.append_toArray, List.nil_append, List.cons_append]
  gi_wp2_with (refine ⟨trivial, ?_⟩; gi_at_call 24; refine (callsIn_wide.2 (lines_any s _)).mono ?_; rintro e w' ⟨rfl, rfl⟩)
  have hm0 := World.ownsMap_made (((w.alloc (.cells #[.slice none 0 0] 22)).alloc (.cells #[.nilIface] 29)).alloc (.cells #[.slice none 0 0] 62)) Tryz.prog 9 (plainElem (H := Unit) Tryz.prog 3)
  have b0 := (((((Boxed.new w 22 (.slice none 0 0)).alloc (.cells #[.nilIface] 29)).alloc (.cells #[.slice none 0 0] 62)).alloc (.map #[] 0)).alloc (.cells #[.map (some (w.heap.size + 1 + 1 + 1))] 53)).alloc (.cells #[.string s] 9)
  have b1 := ((((Boxed.new (w.alloc (.cells #[.slice none 0 0] 22)) 29 .nilIface).alloc (.cells #[.slice none 0 0] 62)).alloc (.map #[] 0)).alloc (.cells #[.map (some (w.heap.size + 1 + 1 + 1))] 53)).alloc (.cells #[.string s] 9)
  have b2 := (((Boxed.new ((w.alloc (.cells #[.slice none 0 0] 22)).alloc (.cells #[.nilIface] 29)) 62 (.slice none 0 0)).alloc (.map #[] 0)).alloc (.cells #[.map (some (w.heap.size + 1 + 1 + 1))] 53)).alloc (.cells #[.string s] 9)
  have b4 := (Boxed.new ((((w.alloc (.cells #[.slice none 0 0] 22)).alloc (.cells #[.nilIface] 29)).alloc (.cells #[.slice none 0 0] 62)).alloc (.map #[] 0)) 53 (.map (some (w.heap.size + 1 + 1 + 1)))).alloc (.cells #[.string s] 9)
  have b5 := Boxed.new (((((w.alloc (.cells #[.slice none 0 0] 22)).alloc (.cells #[.nilIface] 29)).alloc (.cells #[.slice none 0 0] 62)).alloc (.map #[] 0)).alloc (.cells #[.map (some (w.heap.size + 1 + 1 + 1))] 53)) 9 (.string s)
  have hm1 := (hm0.alloc (.cells #[.map (some (w.heap.size + 1 + 1 + 1))] 53)).alloc (.cells #[.string s] 9)
  have hB0 : Below w.heap.size w ((((((w.alloc (.cells #[.slice none 0 0] 22)).alloc (.cells #[.nilIface] 29)).alloc (.cells #[.slice none 0 0] 62)).alloc (.map #[] 0)).alloc (.cells #[.map (some (w.heap.size + 1 + 1 + 1))] 53)).alloc (.cells #[.string s] 9)) :=
    ((((((Below.refl _ w).alloc (Nat.le_refl _) _).alloc (by simp) _).alloc (by simp; omega) _).alloc (by simp; omega) _).alloc (by simp; omega) _).alloc (by simp; omega) _
  have hsz0 : ((((((w.alloc (.cells #[.slice none 0 0] 22)).alloc (.cells #[.nilIface] 29)).alloc (.cells #[.slice none 0 0] 62)).alloc (.map #[] 0)).alloc (.cells #[.map (some (w.heap.size + 1 + 1 + 1))] 53)).alloc (.cells #[.string s] 9)).heap.size = w.heap.size + 6 := by simp
  simp only [World.size_alloc] at b1 b2 b4 b5 hm1
  obtain ⟨W0, hW0⟩ : ∃ W0, (((((w.alloc (.cells #[.slice none 0 0] 22)).alloc (.cells #[.nilIface] 29)).alloc (.cells #[.slice none 0 0] 62)).alloc (.map #[] 0)).alloc (.cells #[.map (some (w.heap.size + 1 + 1 + 1))] 53)).alloc (.cells #[.string s] 9) = W0 := ⟨_, rfl⟩
  rw [hW0] at b0 b1 b2 b4 b5 hm1 hB0 hsz0 ⊢
  clear hW0 hm0 hmm
  have hEw : ∀ W', Below w.heap.size w W' → Env W' := fun W' hb => he.below hb
  have hE0 : ∀ W', Below w.heap.size W0 W' → Env W' := fun W' hb => he.below (hB0.trans hb)
  have hA0 : AI w w.heap.size [] [] [] (.slice none 0 0) W0 := ⟨rfl, b0, b1, b2, World.ownsRow_nil _ _ _ _, b4, hm1, hB0⟩
  have hNb := split_len 10 s.data.toList
  have hsl : s.data.toList.length = s.size := by simp
  obtain ⟨O, hO⟩ : ∃ O, w.heap.size = O := ⟨_, rfl⟩
  rw [hO] at b0 b1 b2 b4 b5 hm1 hB0 hsz0 hEw hE0 hA0 ⊢
  have HO : Hid (w.heap.size = O) := hO
  clear hO b0 b1 b2 b4 hm1
  refine wpIn_rangeFunc_ownG rfl (by omega) (gf := 58) (lb := #[.pointer (some ⟨O + 1 + 1 + 1 + 1 + 1, 0, none⟩)]) rfl trivial (enters_of Tryz.func58 (by kernel_rfl) rfl)
    (lines_stops _ (by omega) (O + 1 + 1 + 1 + 1 + 1) O s hs W0 (by omega) (by omega) b5.cell hE0) belowK_t (belowK_b (by omega)) (Below.refl _ _) (fun _ => rfl)
    (fun pre W => ∃ ds ps v, AI w O pre ds ps v W)
    (fun cc pre W => cc = .ret ∧ ∃ c' l' a, stV pre = .error (c', l') ∧ Told w O a c' l' W)
    ?hI ?hIx
    ⟨[], [], _, hA0⟩
    (fun x => { tmps := #[.string s, undef, .pointer (some ⟨O, 0, none⟩), .pointer (some ⟨O + 1, 0, none⟩), .pointer (some ⟨O + 1 + 1, 0, none⟩), .pointer (some ⟨O + 1 + 1 + 1 + 1, 0, none⟩), .int .i64 (x.1.1 : Int), .string x.1.2, undef, undef, undef, undef, undef, .map (some (O + 1 + 1 + 1)), .string s, .func (.func 58) #[] #[.pointer (some ⟨O + 1 + 1 + 1 + 1 + 1, 0, none⟩)], .int .i64 (x.1.1 : Int), .string x.1.2, undef, undef, undef, undef, undef, undef, undef, undef, undef, undef, undef, undef, undef, undef, undef, undef, undef, undef, undef, undef, undef, undef, undef, undef, undef, undef, undef, undef, undef, undef, undef, undef, undef, undef, undef, undef, undef, undef, undef, undef, undef, undef], defers := [] }) ?assign ?body ?done ?stop
  case hI => exact AI.own _ (by omega)
  case hIx =>
    rintro cc pre W W' row ⟨hcc, c', l', a, hst, ht⟩ hg hr
    exact ⟨hcc, c', l', a, hst, ht.kept hg (fun r e => ⟨by have := (hr r e).1; omega, (hr r e).2⟩)⟩
  case assign =>
    intro l x W K hK
    simp only [lnEnc]
    gi_wp2
    exact hK
  case body =>
    rintro l pre ⟨⟨k, line⟩, hk, hln⟩ W ⟨ds, ps, v, hI⟩ hlt
    have hN1 : pre.length < 4294967281 := by omega
    have hln' : line.size < 4294967281 := hln
    have hk' : k < 4294967281 := hk
    obtain ⟨hd1, _, _⟩ := st_bounds _ pre rfl ds ps hI.st
    have hd2 : ds.length < 4294967281 := by omega
    obtain ⟨q, c, rfl⟩ := row_slice hI.row
    have HA : Hid (AI w O pre ds ps (.slice q ds.length c) W) := hI
    have hx : stV (pre ++ [⟨(k, line), hk, hln⟩]) = stepV (.ok (ds, ps)) k line.data.toList := st_next _ hI.st
    have c0 := hI.b0.cell
    have c1 := hI.b1.cell
    have c2 := hI.b2.cell
    have c4 := hI.b4.cell
    have f0 := hI.b0.frozen
    have f1 := hI.b1.frozen
    have f2 := hI.b2.frozen
    dsimp only
    by_cases he0 : line = ⟨#[]⟩
    · subst he0
      have HX : Hid (stV (pre ++ [⟨(k, ⟨#[]⟩), hk, hln⟩]) = .ok (ds, ps)) := by rw [hx]; rfl
      clear hx hI he hE0 hEw hA0 h
      gi_wp2
      exact ⟨KeepsFrom.refl _ _, Below.refl _ _, ds, ps, _, HX.out, HA.out.b0, HA.out.b1, HA.out.b2, HA.out.row, HA.out.b4, World.ownsMap.mono HA.out.pl (by simp), HA.out.low⟩
    · have hne2 : line.toList.isEmpty = false := ba_ne line he0
      have hne3 : line.data.toList ≠ [] := fun e => he0 (by cases line with | mk d => cases d with | mk l => simp at e; subst e; rfl)
      by_cases hl : line.data.toList.getLast? = some 58
      · have HS : Hid (∀ w, Calls Tryz.prog 25 #[.string line, .string ⟨#[58]⟩] w fun e w' => e = .returned (.tuple #[str line.data.toList.dropLast, .bool true]) ∧ w' = w) := fun w => by
          have := Tryz.strings_CutSuffix line ⟨#[58]⟩ w (by omega)
          have e58 : (ByteArray.mk #[58]).data.toList = [58] := rfl
          rw [e58, (suf_yes _ 58 hl).1, (suf_yes _ 58 hl).2] at this
          exact this
        have hdl : line.data.toList.dropLast.length < 4294967281 := by have : line.data.toList.length = line.size := by simp
                                                                       rw [List.length_dropLast]; omega
        have HM := mark_any W (O + 1 + 1 + 1) pre.length ds.length ps ⟨line.data.toList.dropLast.toArray⟩ hI.pl (by unfold maxLen; omega) (by rw [str_size]; unfold maxLen; omega) hd2
        rw [stepV, if_neg hne3, if_pos hl] at hx
        simp only at HM
        generalize line.data.toList.dropLast = nm at *
        have hO6 : O + 1 + 1 + 1 < W0.heap.size := by omega
        have HO6 : Hid (∀ W', W.grownBy W' (some (O + 1 + 1 + 1)) → KeepsFrom W0.heap.size W W' ∧ Below O W W') := fun W' hg => ⟨KeepsFrom.of_grownBy hg (fun j e => by cases e; omega), (Below.refl _ W).grown hg (Nat.le_of_lt HA.out.b0.lt) (fun k e => by cases e; omega)⟩
        have HCC : Hid (∀ W', W.grownBy W' (some (O + 1 + 1 + 1)) → Outs O W') := fun W' hg => outs_of (HA.out.b0.kept hg (by simp; omega)) (HA.out.b1.kept hg (by simp))
        by_cases hnm : nameV nm = false
        · have e1 : mkV nm ps = 3 := by rw [mkV, if_pos hnm]
          rw [e1] at HM
          rw [if_pos hnm] at hx
          have HX : Hid (stV (pre ++ [⟨(k, line), hk, hln⟩]) = .error (3, k)) := hx
          have HMM : Hid (Calls Tryz.prog 26 #[.map (some (O + 1 + 1 + 1)), str nm, .int .i64 (ds.length : Int)] W fun e w' => e = .returned (.int .i64 3) ∧ W.grownBy w' (some (O + 1 + 1 + 1))) := HM.mono fun e w' ⟨a, _, b⟩ => ⟨a, b⟩
          clear hx hI he hE0 hEw hA0 h HM e1 hnm
          gi_wp2_with (first
            | (refine ⟨trivial, ?_⟩; gi_at_call 25; refine (CallsIn.inRound l (callsIn_wide.2 (HS.out _))).mono ?_; rintro e W ⟨rfl, rfl⟩)
            | (refine ⟨trivial, ?_⟩; gi_at_call 26; refine (CallsIn.inRound l (callsIn_wide.2 HMM.out)).mono ?_; rintro e w2 ⟨rfl, hg2⟩; obtain ⟨d0, g0, d1, g1⟩ := HCC.out w2 hg2))
          exact ⟨((HO6.out _ hg2).1.trans ((KeepsOthers.alloc _ _).from _)).trans (((KeepsOthers.setCell _ _ _).from _).trans ((KeepsOthers.setCell _ _ _).from _)), rfl, _, _, _, HX.out, told_of (HA.out.b0.kept hg2 (by simp; omega)) (HA.out.b1.kept hg2 (by simp)) (HA.out.low.grown hg2 (Nat.le_of_lt HA.out.b0.lt) (fun k e => by cases e; omega))⟩
        · rw [if_neg hnm] at hx
          by_cases hlk : (ps.lookup nm).isSome
          · have e1 : mkV nm ps = 9 := by rw [mkV, if_neg hnm, if_pos hlk]
            rw [e1] at HM
            rw [if_pos hlk] at hx
            have HX : Hid (stV (pre ++ [⟨(k, line), hk, hln⟩]) = .error (9, k)) := hx
            have HMM : Hid (Calls Tryz.prog 26 #[.map (some (O + 1 + 1 + 1)), str nm, .int .i64 (ds.length : Int)] W fun e w' => e = .returned (.int .i64 9) ∧ W.grownBy w' (some (O + 1 + 1 + 1))) := HM.mono fun e w' ⟨a, _, b⟩ => ⟨a, b⟩
            clear hx hI he hE0 hEw hA0 h HM e1 hnm
            gi_wp2_with (first
              | (refine ⟨trivial, ?_⟩; gi_at_call 25; refine (CallsIn.inRound l (callsIn_wide.2 (HS.out _))).mono ?_; rintro e W ⟨rfl, rfl⟩)
              | (refine ⟨trivial, ?_⟩; gi_at_call 26; refine (CallsIn.inRound l (callsIn_wide.2 HMM.out)).mono ?_; rintro e w2 ⟨rfl, hg2⟩; obtain ⟨d0, g0, d1, g1⟩ := HCC.out w2 hg2))
            exact ⟨((HO6.out _ hg2).1.trans ((KeepsOthers.alloc _ _).from _)).trans (((KeepsOthers.setCell _ _ _).from _).trans ((KeepsOthers.setCell _ _ _).from _)), rfl, _, _, _, HX.out, told_of (HA.out.b0.kept hg2 (by simp; omega)) (HA.out.b1.kept hg2 (by simp)) (HA.out.low.grown hg2 (Nat.le_of_lt HA.out.b0.lt) (fun k e => by cases e; omega))⟩
          · have e1 : mkV nm ps = 0 := by rw [mkV, if_neg hnm, if_neg hlk]
            have e2 : mkP nm ds.length ps = (nm, ds.length) :: ps := by rw [mkP, if_neg hnm, if_neg hlk]
            rw [e1, e2] at HM
            rw [if_neg hlk] at hx
            have HX : Hid (stV (pre ++ [⟨(k, line), hk, hln⟩]) = .ok (ds, (nm, ds.length) :: ps)) := hx
            have HMM : Hid (Calls Tryz.prog 26 #[.map (some (O + 1 + 1 + 1)), str nm, .int .i64 (ds.length : Int)] W fun e w' => e = .returned (.int .i64 0) ∧ PlAt w' (O + 1 + 1 + 1) (pre.length + 1) ((nm, ds.length) :: ps) ∧ W.grownBy w' (some (O + 1 + 1 + 1))) := HM
            clear hx hI he hE0 hEw hA0 h HM e1 e2 hnm hlk
            gi_wp2_with (first
              | (refine ⟨trivial, ?_⟩; gi_at_call 25; refine (CallsIn.inRound l (callsIn_wide.2 (HS.out _))).mono ?_; rintro e W ⟨rfl, rfl⟩)
              | (refine ⟨trivial, ?_⟩; gi_at_call 26; refine (CallsIn.inRound l (callsIn_wide.2 HMM.out)).mono ?_; rintro e w2 ⟨rfl, hp2, hg2⟩; have HP2 : Hid (PlAt w2 (O + 1 + 1 + 1) (pre.length + 1) ((nm, ds.length) :: ps)) := hp2; have HG2 : Hid (W.grownBy w2 (some (O + 1 + 1 + 1))) := hg2; clear hp2 hg2))
            exact ⟨(HO6.out _ HG2.out).1, (HO6.out _ HG2.out).2, ds, _, _, HA.out.noted _ HG2.out HP2.out HX.out⟩
      · have HS : Hid (∀ w, Calls Tryz.prog 25 #[.string line, .string ⟨#[58]⟩] w fun e w' => ∃ x, e = .returned (.tuple #[.string x, .bool false]) ∧ w' = w) := fun w => by
          have := Tryz.strings_CutSuffix line ⟨#[58]⟩ w (by omega)
          have e58 : (ByteArray.mk #[58]).data.toList = [58] := rfl
          rw [e58, suf_no _ 58 hl] at this
          exact this.mono fun e w' ⟨a, b⟩ => ⟨_, a, b⟩
        rw [stepV, if_neg hne3, if_neg hl] at hx
        have HR := read_any line W (hEw W HA.out.low) (by have := HA.out.b0.lt; have := HO.out; omega) hln'
        cases hrd : readV line.data.toList with
        | none =>
          rw [hrd] at hx HR
          have HX : Hid (stV (pre ++ [⟨(k, line), hk, hln⟩]) = .error (3, k)) := hx
          have HRR : Hid (Calls Tryz.prog 27 #[.string line] W fun e w' => ∃ (o d a b n : Int) (pl : ByteArray), e = .returned (.tuple #[.agg #[.int .i64 o, .int .i64 d, .int .i64 a, .int .i64 b, .int .i64 n, .string pl, .int .i64 0], .bool false]) ∧ Below W.heap.size W w' ∧ Outs O w' ∧ OutsD O w') := HR.mono fun e w' ⟨hb, d, he⟩ => ⟨_, _, _, _, _, _, he, hb, outs_of ((hb.block _ HA.out.b0.lt).trans HA.out.b0) ((hb.block _ HA.out.b1.lt).trans HA.out.b1), outsD_of ((hb.block _ HA.out.b0.lt).trans HA.out.b0) ((hb.block _ HA.out.b1.lt).trans HA.out.b1)⟩
          clear hx hI he hE0 hEw hA0 h HR hrd hne3
          gi_wp2_with (first
            | (refine ⟨trivial, ?_⟩; gi_at_call 25; refine (CallsIn.inRound l (callsIn_wide.2 (HS.out _))).mono ?_; rintro e W ⟨x14, rfl, rfl⟩)
            | (refine ⟨trivial, ?_⟩; gi_at_call 27; refine (CallsIn.inRound l (callsIn_wide.2 HRR.out)).mono ?_; rintro e w2 ⟨o2, d2, a2, n2, m2, pl2, rfl, hb2, HO2, ⟨d0, g0, d1, g1⟩⟩))
          exact ⟨(from_below hb2).trans (KeepsOthers.from (((KeepsOthers.alloc _ _).trans (KeepsOthers.alloc _ _)).trans ((KeepsOthers.setCell _ _ _).trans (KeepsOthers.setCell _ _ _))) _), rfl, _, _, _, HX.out, by
            have tk := told_of (cd := 3) (ln := k) (Boxed.alloc ((hb2.block _ HA.out.b0.lt).trans HA.out.b0) (.cells #[.int .i64 o2, .int .i64 d2, .int .i64 a2, .int .i64 n2, .int .i64 m2, .string pl2, .int .i64 0] 71)) (Boxed.alloc ((hb2.block _ HA.out.b1.lt).trans HA.out.b1) (.cells #[.int .i64 o2, .int .i64 d2, .int .i64 a2, .int .i64 n2, .int .i64 m2, .string pl2, .int .i64 0] 71)) ((HA.out.low.trans (hb2.mono (Nat.le_of_lt HA.out.b0.lt))).alloc (by have := HA.out.b0.lt; have := hb2.size; omega) _)
            rw [World.size_alloc] at tk
            exact tk⟩
        | some d =>
          rw [hrd] at hx HR
          obtain ⟨o1, d1, a1, n1, m1, pl1⟩ := d
          have HX : Hid (stV (pre ++ [⟨(k, line), hk, hln⟩]) = .ok (ds ++ [(⟨o1, d1, a1, n1, m1, pl1⟩, k)], ps)) := hx
          generalize hpl : (⟨pl1.toArray⟩ : ByteArray) = pb at *
          have HPB : Hid ((⟨pl1.toArray⟩ : ByteArray) = pb) := hpl
          have HRR : Hid (Calls Tryz.prog 27 #[.string line] W fun e w' => e = .returned (.tuple #[.agg #[.int .i64 o1, .int .i64 d1, .int .i64 a1, .int .i64 n1, .int .i64 m1, .string pb, .int .i64 0], .bool true]) ∧ Below W.heap.size W w' ∧ (∀ A, (w'.alloc A).cell? ⟨O + 1 + 1, 0, none⟩ = some (.slice q ds.length c)) ∧ O ≤ w'.heap.size) := HR.mono fun e w' ⟨hb, he⟩ => ⟨by rw [← hpl]; exact he, hb, fun A => Boxed.cell (Boxed.alloc ((hb.block _ HA.out.b2.lt).trans HA.out.b2) A), by have := HA.out.b0.lt; have := hb.size; omega⟩
          have HRow : Hid (∀ w' A B, Below W.heap.size W w' → ((w'.alloc A).alloc B).ownsRow O 71 7 (.slice q ds.length c) ds.length (dcs ds)) := fun w' A B hb => ((HA.out.kept hb).row.alloc A).alloc B
          have H17 : Hid (∀ u ∈ [Value.int .i64 o1, .int .i64 d1, .int .i64 a1, .int .i64 n1, .int .i64 m1, .string pb, .int .i64 (k : Int)], u.oneCell' = true) := fun u hu => by simp at hu; rcases hu with rfl | rfl | rfl | rfl | rfl | rfl | rfl <;> rfl
          have HN7 : Hid (∀ (w' : World), ∀ (j : Nat) (x : Value), [Value.int .i64 o1, .int .i64 d1, .int .i64 a1, .int .i64 n1, .int .i64 m1, .string pb, .int .i64 (k : Int)][j]? = some x → (w'.alloc (.cells #[.int .i64 o1, .int .i64 d1, .int .i64 a1, .int .i64 n1, .int .i64 m1, .string pb, .int .i64 (k : Int)] 71)).cell? ((⟨w'.heap.size, 0, none⟩ : Addr).add j) = some x) := fun w' => World.news_of_block (cs := #[.int .i64 o1, .int .i64 d1, .int .i64 a1, .int .i64 n1, .int .i64 m1, .string pb, .int .i64 (k : Int)]) (t := 71) (fr := (0, 0)) (heap_alloc_last w' _)
          clear hx hI he hE0 hEw hA0 h HR hrd hne3 hpl
          gi_wp2_with (first
            | (refine ⟨trivial, ?_⟩; gi_at_call 25; refine (CallsIn.inRound l (callsIn_wide.2 (HS.out _))).mono ?_; rintro e W ⟨x14, rfl, rfl⟩)
            | (refine ⟨trivial, ?_⟩; gi_at_call 27; refine (CallsIn.inRound l (callsIn_wide.2 HRR.out)).mono ?_; rintro e w2 ⟨rfl, hb2, hc2, hs2⟩; have HB2 : Hid (Below W.heap.size W w2) := hb2; clear hb2)
            | (gi_at_builtin; refine wpListIn_append_own _ rfl _ _ 62 rfl O 71 i0 _ 7 64 Tryz.underlying62 hi0 hz0 hz1 hz2 rfl (by decide) _ ds.length _ rfl (HRow.out _ _ _ HB2.out) ⟨w2.heap.size + 1, 0, none⟩ 1 1 [.int .i64 o1, .int .i64 d1, .int .i64 a1, .int .i64 n1, .int .i64 m1, .string pb, .int .i64 (k : Int)] rfl rfl (by have := HN7.out (w2.alloc (.cells #[.int .i64 o1, .int .i64 d1, .int .i64 a1, .int .i64 n1, .int .i64 m1, .string pb, .int .i64 (k : Int)] 71)); simpa only [World.size_alloc] using this) H17.out (by unfold maxLen; omega) (by omega) (by simp; omega) ?_))
          intro v' w3 hown hgrow _
          obtain ⟨g', cap', rfl⟩ := ownsRow_succ hown
          obtain ⟨r1, r2, r3, r4⟩ := HA.out.laid ⟨(k, line), hk, hln⟩ (⟨o1, d1, a1, n1, m1, pl1⟩, k) HB2.out (by
            have e5 : str pl1 = .string pb := congrArg Value.string HPB.out
            show w3.ownsRow O 71 7 _ _ (dcs ds ++ [.int .i64 o1, .int .i64 d1, .int .i64 a1, .int .i64 n1, .int .i64 m1, str pl1, .int .i64 (k : Int)])
            rw [e5]
            exact hown) hgrow HX.out
          have R : Hid (AI w O (pre ++ [⟨(k, line), hk, hln⟩]) (ds ++ [(⟨o1, d1, a1, n1, m1, pl1⟩, k)]) ps (.slice (some ⟨g', 0, none⟩) (ds.length + 1) cap') (w3.setCell ⟨O + 1 + 1, 0, none⟩ (.slice (some ⟨g', 0, none⟩) (ds.length + 1) cap')) ∧ KeepsFrom W0.heap.size W (w3.setCell ⟨O + 1 + 1, 0, none⟩ (.slice (some ⟨g', 0, none⟩) (ds.length + 1) cap')) ∧ Below O W (w3.setCell ⟨O + 1 + 1, 0, none⟩ (.slice (some ⟨g', 0, none⟩) (ds.length + 1) cap'))) := ⟨r2, r3 _, r4⟩
          have hc3 := r1.cell
          have hf3 := r1.frozen
          clear r1 r2 r3 r4 hown hgrow
          gi_wp2
          exact ⟨R.out.2.1, R.out.2.2, _, _, _, R.out.1⟩
  case done =>
    rintro D ys W hD rfl ⟨ds, ps, v, hI⟩ hK
    have hst := hI.st
    rw [st_all _ (by omega)] at hst
    unfold asmV at h
    rw [hst] at h
    obtain ⟨hd1, hd2, hd3⟩ := st_bounds _ _ rfl ds ps hI.st
    rw [upto_length] at hd1 hd2
    have hp4 : ∀ x ∈ ps, x.2 < 4294967281 := fun x hx => by have := hd2 x hx; omega
    have hd4 : ∀ x ∈ ds, x.1.pl.length < 4294967281 := fun x hx => by have := hd3 x hx; omega
    obtain ⟨I, hI1, ⟨out, hout⟩, d, hdI, hcase⟩ := fin_err ps hp4 ds 0 cd ln hd4 h
    have hfo : FinOk (ds.take I) ps out := finOk_of (ds.take I) ps out hout hp4 (fun x hx => hd4 x (List.mem_of_mem_take hx))
    have hbad : Bad ds ps I cd ln := by
      have hl := hd4 _ (List.mem_of_getElem? hdI)
      refine ⟨d, hdI, ?_⟩
      rcases hcase with ⟨a1, a2, a3⟩ | ⟨a1, N, a2, a3 | ⟨a3, j, a4, a5⟩⟩
      · exact .inl ⟨a1, a2, hl, a3⟩
      · exact .inr ⟨a1, N, a2, .inl a3⟩
      · refine .inr ⟨a1, N, a2, .inr ⟨a3, hl, j, ?_, a4, by rw [a5]; simp⟩⟩
        obtain ⟨x, hx⟩ := lookup_mem _ _ _ a4
        exact hp4 _ hx
    obtain ⟨q, c, rfl⟩ := row_slice hI.row
    have HA : Hid (AI w O (upto s.data.toList (splitC 10 s.data.toList).length) ds ps (.slice q ds.length c) W) := hI
    have HF : Hid (Calls Tryz.prog 28 #[.slice q ds.length c, .map (some (O + 1 + 1 + 1))] W fun e w' => ∃ a, e = .returned (.tuple #[.slice none 0 0, .iface 68 (.pointer (some ⟨a, 0, none⟩))]) ∧ w'.heap[a]? = some (.cells #[.int .i64 cd, .int .i64 (ln : Int)] 69) ∧ W.heap.size ≤ a ∧ Below W.heap.size W w') := by
      obtain ⟨g, c', e⟩ : ∃ g c', Value.slice q ds.length c = .slice (some ⟨g, 0, none⟩) ds.length c' := by
        rcases hI.row.2 with ⟨_, h1⟩ | ⟨g, cap, cur, e, _⟩
        · omega
        · exact ⟨g, cap, e⟩
      injection e with e1 _ e3
      subst e1; subst e3
      exact finish_err W _ g c _ _ ds ps out (hEw W hI.low) (by omega) (fun _ => rfl) (World.block_lt_of_cell? W _ (seven_of hI.row 0 _ _ (List.getElem?_eq_getElem (by omega))).c0) (fun i d k hd => seven_of hI.row i d k hd) hI.pl I hI1 hfo cd ln hbad
    have c0 := hI.b0.cell
    have c1 := hI.b1.cell
    have c2 := hI.b2.cell
    have c4 := hI.b4.cell
    clear hI he hE0 hEw hA0 h hst hfo hbad hcase hdI hout
    gi_wp2_with (refine ⟨trivial, ?_⟩; gi_at_call 28; refine (callsIn_wide.2 HF.out).mono ?_; rintro e w2 ⟨a2, rfl, ha2, hz2, hb2⟩; have k0 : Boxed w2 O 22 (.slice none 0 0) := (hb2.block _ HA.out.b0.lt).trans HA.out.b0; have k1 : Boxed w2 (O + 1) 29 .nilIface := (hb2.block _ HA.out.b1.lt).trans HA.out.b1; have m0 := k0.cell; have m1 := k0.frozen; have k1' : ∀ v, Boxed (w2.setCell ⟨O, 0, none⟩ v) (O + 1) 29 .nilIface := fun v => k1.kept (grownBy_setCell' _ O v) (by simp); have m2 : ∀ v, (w2.setCell ⟨O, 0, none⟩ v).cell? ⟨O + 1, 0, none⟩ = some .nilIface := fun v => (k1' v).cell; have m3 : ∀ v, (w2.setCell ⟨O, 0, none⟩ v).frozen? ⟨O + 1, 0, none⟩ = false := fun v => (k1' v).frozen)
    have hK2 : w2.heap[D]? = some (.deferred (some [])) := (hb2.block D (Array.getElem?_eq_some_iff.1 hK).1).trans hK
    have hK3 := ((KeepsOthers.setCell w2 ⟨O, 0, none⟩ (.slice none 0 0)).trans (KeepsOthers.setCell _ ⟨O + 1, 0, none⟩ (.iface 68 (.pointer (some ⟨a2, 0, none⟩))))).same D _ hK2 rfl
    have lt1 := HA.out.b1.lt
    have tld : Told w O a2 cd ln ((w2.setCell ⟨O, 0, none⟩ (.slice none 0 0)).setCell ⟨O + 1, 0, none⟩ (.iface 68 (.pointer (some ⟨a2, 0, none⟩)))) := by
      refine ⟨(k0.set _).kept (grownBy_setCell' _ _ _) (by simp), (k1' _).set _, ?_, by omega, ((HA.out.low.trans (hb2.mono (Nat.le_of_lt HA.out.b0.lt))).setCell (p := ⟨O, 0, none⟩) (Nat.le_refl _) _).setCell (p := ⟨O + 1, 0, none⟩) (Nat.le_succ _) _⟩
      have hlt := (Array.getElem?_eq_some_iff.1 ha2).1
      rw [(grownBy_setCell' _ (O + 1) _).block a2 (by simpa [World.setCell] using hlt) (by simp; omega), (grownBy_setCell' _ O _).block a2 hlt (by simp; omega)]
      exact ha2
    refine ⟨by simp, .inl ⟨_, _, rfl, run_takeDeferred hK3, ?_⟩⟩
    have tl2 := tld.kept (grownBy_putObj' _ D (.deferred none)) (fun r e => by cases e; exact ⟨by omega, _, hK3, rfl⟩)
    exact ⟨_, res7 _ _ O _ _ rfl rfl tl2.b0 tl2.b1, a2, rfl, tl2.at_, by rw [HO.out]; exact tl2.low⟩
  case stop =>
    rintro D c pre W hD hp ⟨rfl, c', l', a, hst, ht⟩ hK
    have h1 := st_prefix _ _ _ hp _ hst
    rw [st_all _ (by omega)] at h1
    unfold asmV at h
    rw [h1] at h
    injection h with h
    injection h with h2 h3
    subst h2; subst h3
    gi_wp2
    refine ⟨by simp, .inl ⟨_, _, rfl, run_takeDeferred hK, ?_⟩⟩
    have tl2 := ht.kept (grownBy_putObj' _ D (.deferred none)) (fun r e => by cases e; exact ⟨by omega, _, hK, rfl⟩)
    exact ⟨_, res7 _ _ O _ _ rfl rfl tl2.b0 tl2.b1, a, rfl, tl2.at_, by rw [HO.out]; exact tl2.low⟩
end Go.Proofs.YtjjjdplgdlaihaaGreatDoor
