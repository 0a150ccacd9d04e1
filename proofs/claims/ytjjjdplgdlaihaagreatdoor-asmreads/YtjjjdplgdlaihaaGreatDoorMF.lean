/- The places in memory: a map from names to numbers; mark walked. finish walked: the drafts' instructions, where none is at fault. slices.Equal of two lists of instructions that are alike. -/
import Derived.Test.YtjjjdplgdlaihaaGreatDoorB8
import Derived.Maps.OwnSet
import Derived.Maps.OwnOps
import Derived.Maps.Views
import Derived.StringKeys
import Derived.OwnWalk
import Derived.Deep.AppendLies
namespace Go.Proofs.YtjjjdplgdlaihaaGreatDoor
open Go Go.RowKit

/-- The places as a datum. -/
def plD : Places → DataW Unit
  | [] => .map []
  | (nm, i) :: ps => (plD ps).put (.string nm) (.lit (.int .i64 i))
theorem plD_map : ∀ ps, Maps.IsMap (plD ps)
  | [] => Maps.isMap_empty
  | (_, _) :: ps => (plD_map ps).put _ _
theorem key_ne {a b : By} (h : a ≠ b) : Lit.string a ≠ Lit.string b := fun e => h (by injection e)
theorem plD_has (nm : By) : ∀ ps, Maps.has (plD ps) (.string nm) = (ps.lookup nm).isSome
  | [] => rfl
  | (x, i) :: ps => by
    by_cases h : nm = x
    · subst h
      rw [plD, Maps.has_put_same (plD_map ps) (by trivial)]
      simp [List.lookup]
    · rw [plD, Maps.has_put_other (key_ne h), plD_has nm ps]
      have : (nm == x) = false := by simpa using h
      simp [List.lookup, this]
theorem plD_at (nm : By) (z : DataW Unit) : ∀ ps, (plD ps).atKey (.string nm) z = (match ps.lookup nm with | some i => .lit (.int .i64 i) | none => z)
  | [] => rfl
  | (x, i) :: ps => by
    by_cases h : nm = x
    · subst h
      rw [plD, Maps.atKey_put_same (plD_map ps) (by trivial)]
      simp [List.lookup]
    · rw [plD, Maps.atKey_put_other (key_ne h), plD_at nm z ps]
      have : (nm == x) = false := by simpa using h
      simp [List.lookup, this]

/-- The places lie in block b. -/
def PlAt (w : World) (b n : Nat) (ps : Places) : Prop := w.ownsMap Tryz.prog 9 (plainElem (H := Unit) Tryz.prog 3) b n (plD ps)
theorem zero3 (w : World) : (zeroValue 3).run Tryz.prog w = .ok (.int .i64 0) w := Tryz.zeroValue3 w

/-- What is looked up. -/
theorem look_any {w : World} {b n : Nat} {ps : Places} (h : PlAt w b n ps) (s : ByteArray) (hs : s.size ≤ maxLen) :
    ∃ i : Int, (Instr.lookup 53 (.map (some b)) (.string s) true).run Tryz.prog w = .ok (.tuple #[.int .i64 i, .bool (ps.lookup s.data.toList).isSome]) w ∧ (∀ j, ps.lookup s.data.toList = some j → i = j) := by
  obtain ⟨v, pl, hrun, hv⟩ := World.ownsMap.look_ok h (Maps.string_keyed Tryz.underlying9) Tryz.underlying53 (zero3 w) (plainElem_int Tryz.underlying3 (by rfl)) (Go.WideMaps.keyOf_string_mk Tryz.underlying9 hs)
  rw [plD_has] at hrun
  rw [plD_at] at hv
  have hform : ∃ i : Int, v = .int .i64 i := by
    cases v <;> simp [plainElem, Tryz.underlying3] at hv
    obtain ⟨⟨rfl, _⟩, _⟩ := hv
    exact ⟨_, rfl⟩
  obtain ⟨i, rfl⟩ := hform
  refine ⟨i, hrun, fun j hj => ?_⟩
  rw [hj] at hv
  simp [plainElem, Tryz.underlying3] at hv
  exact hv.2.1

/-- What a mark comes to: the Errno. -/
def mkV (nm : By) (ps : Places) : Int := if nameV nm = false then 3 else if (ps.lookup nm).isSome then 9 else 0
/-- .. and the places behind it. -/
def mkP (nm : By) (i : Nat) (ps : Places) : Places := if nameV nm = false then ps else if (ps.lookup nm).isSome then ps else (nm, i) :: ps

set_option maxRecDepth 100000 in
set_option maxHeartbeats 2000000 in
theorem mark_any (w : World) (b n i : Nat) (ps : Places) (s : ByteArray) (h : PlAt w b n ps) (hn : n < maxLen) (hs : s.size ≤ maxLen) (hi : i < 4294967281) :
    Calls Tryz.prog 26 #[.map (some b), .string s, .int .i64 i] w fun e w' => e = .returned (.int .i64 (mkV s.data.toList ps)) ∧ PlAt w' b (n + 1) (mkP s.data.toList i ps) ∧ w.grownBy w' (some b) := by
  have HN : Hid (Calls Tryz.prog 9 #[.string s] w fun e w' => e = .returned (.bool (nameV s.data.toList)) ∧ w' = w) := name_any s w (by unfold maxLen at hs; omega)
  obtain ⟨v, hrun, _⟩ := look_any h s hs
  have HP : Hid (PlAt w b n ps) := h
  have HG : Hid (w.grownBy w (some b)) := ⟨rfl, rfl, rfl, Nat.le_refl _, fun _ _ _ => rfl⟩
  cases hnm : nameV s.data.toList with
  | false =>
    have e1 : mkV s.data.toList ps = 3 := by rw [mkV, if_pos hnm]
    have e2 : mkP s.data.toList i ps = ps := by rw [mkP, if_pos hnm]
    rw [e1, e2]
    rw [hnm] at HN
    clear h e1 e2
    go_enter Tryz.func26, Tryz.ntmps26
    go_wp2_with (go_at_call 9; refine HN.out.mono ?_; rintro e w' ⟨rfl, rfl⟩)
    go_ret
    exact ⟨rfl, HP.out.mono (by omega), HG.out⟩
  | true =>
    rw [hnm] at HN
    cases hl : (ps.lookup s.data.toList).isSome with
    | true =>
      have e1 : mkV s.data.toList ps = 9 := by rw [mkV, if_neg (by rw [hnm]; decide), if_pos hl]
      have e2 : mkP s.data.toList i ps = ps := by rw [mkP, if_neg (by rw [hnm]; decide), if_pos hl]
      rw [e1, e2]
      rw [hl] at hrun
      clear h e1 e2 hl hnm
      go_enter Tryz.func26, Tryz.ntmps26
      go_wp2_with (go_at_call 9; refine HN.out.mono ?_; rintro e w' ⟨rfl, rfl⟩)
      go_ret
      exact ⟨rfl, HP.out.mono (by omega), HG.out⟩
    | false =>
      have e1 : mkV s.data.toList ps = 0 := by rw [mkV, if_neg (by rw [hnm]; decide), if_neg (by rw [hl]; decide)]
      have e2 : mkP s.data.toList i ps = (s.data.toList, i) :: ps := by rw [mkP, if_neg (by rw [hnm]; decide), if_neg (by rw [hl]; decide)]
      rw [e1, e2]
      rw [hl] at hrun
      have HK : Hid (keyOf Tryz.prog 9 (.string s) = some (.string s.data.toList)) := Go.WideMaps.keyOf_string_mk Tryz.underlying9 hs
      have HW : Hid ((Lit.int .i64 (i : Int)).wf = true) := WalkArith.wf_i64 (by omega)
      clear h e1 e2 hl hnm
      go_enter Tryz.func26, Tryz.ntmps26
      go_wp2_with (first
        | (go_at_call 9; refine HN.out.mono ?_; rintro e w' ⟨rfl, rfl⟩)
        | (at_mapUpdate; refine wpList_mapUpdate_own _ rfl _ _ _ 53 rfl 9 3 (Maps.string_keyed Tryz.underlying9) Tryz.underlying53 (plainElem (H := Unit) Tryz.prog 3) b n (plD ps) rfl HP.out hn _ _ _ rfl rfl HK.out _ [] (plainElem_int Tryz.underlying3 HW.out) ?_))
      intro w1 hown hgrow
      have HO : Hid (PlAt w1 b (n + 1) ((s.data.toList, i) :: ps)) := hown
      have HR : Hid (w'.grownBy w1 (some b)) := hgrow
      clear hown hgrow
      go_wp2
      go_ret
      exact ⟨rfl, HO.out, HR.out⟩
end Go.Proofs.YtjjjdplgdlaihaaGreatDoor

namespace Go.Proofs.YtjjjdplgdlaihaaGreatDoor
open Go Go.RowKit

/-- A draft's cells, from place p of block g on. -/
structure Seven (w : World) (g p : Nat) (d : Dr) (k : Nat) : Prop where
  c0 : w.cell? ⟨g, p, none⟩ = some (.int .i64 d.o)
  c1 : w.cell? ⟨g, p + 1, none⟩ = some (.int .i64 d.d)
  c2 : w.cell? ⟨g, p + 2, none⟩ = some (.int .i64 d.a)
  c3 : w.cell? ⟨g, p + 3, none⟩ = some (.int .i64 d.b)
  c4 : w.cell? ⟨g, p + 4, none⟩ = some (.int .i64 d.n)
  c5 : w.cell? ⟨g, p + 5, none⟩ = some (str d.pl)
  c6 : w.cell? ⟨g, p + 6, none⟩ = some (.int .i64 k)
theorem Seven.below {w w' : World} {g p : Nat} {d : Dr} {k : Nat} {B : Nat} (h : Seven w g p d k) (hg : g < B) (hb : Below B w w') : Seven w' g p d k := by
  have c : ∀ i, w'.cell? ⟨g, i, none⟩ = w.cell? ⟨g, i, none⟩ := fun i => hb.cell (p := ⟨g, i, none⟩) hg
  exact ⟨(c _).trans h.c0, (c _).trans h.c1, (c _).trans h.c2, (c _).trans h.c3, (c _).trans h.c4, (c _).trans h.c5, (c _).trans h.c6⟩

/-- What finish makes of the drafts, none at fault. -/
def FinOk (ds : Drafts) (ps : Places) (out : List Dr) : Prop :=
  out.length = ds.length ∧ ∀ (i : Nat) (d : Dr) (k : Nat), ds[i]? = some (d, k) → ∃ N : Int, out[i]? = some ⟨d.o, d.d, d.a, d.b, N, []⟩ ∧ Rt d.o d.d d.a d.b N = true ∧ ((d.pl = [] ∧ N = d.n) ∨ (d.pl ≠ [] ∧ d.pl.length < 4294967281 ∧ ∃ j : Nat, j < 4294967281 ∧ ps.lookup d.pl = some j ∧ N = 4 * ((j : Int) - i)))

/-- Instructions' cells. -/
def ins (l : List Dr) : List Value := l.flatMap fun d => [.int .i64 d.o, .int .i64 d.d, .int .i64 d.a, .int .i64 d.b, .int .i64 d.n]

theorem ins_take (out : List Dr) (k : Nat) (x : Dr) (h : out[k]? = some x) : ins (out.take (k + 1)) = ins (out.take k) ++ [.int .i64 x.o, .int .i64 x.d, .int .i64 x.a, .int .i64 x.b, .int .i64 x.n] := by
  obtain ⟨hk, rfl⟩ := List.getElem?_eq_some_iff.1 h
  rw [List.take_succ_eq_append_getElem hk]
  unfold ins
  rw [List.flatMap_append]
  rfl
theorem ownsRow_some {w : World} {B k : Nat} {v : Value} {xs : List Value} (h : w.ownsRow B 39 5 v (k + 1) xs) : ∃ g c, v = .slice (some ⟨g, 0, none⟩) (k + 1) c := by
  rcases h.2 with ⟨_, h0⟩ | ⟨g, cap, _, rfl, _⟩
  · omega
  · exact ⟨g, cap, rfl⟩

theorem ba_ne (x : ByteArray) (h : ¬ x = ⟨#[]⟩) : x.toList.isEmpty = false := by
  have h1 := bytes_neq h
  have e : (⟨#[]⟩ : ByteArray).toList = [] := by simp
  rw [e] at h1
  cases hx : x.toList with
  | nil => rw [hx] at h1; simp at h1
  | cons _ _ => rfl

/-- What is known behind the question whether an instruction may be. -/
def Aft (w wr w2 : World) (v : Value) (k : Nat) (xs : List Value) (o d a b n : Int) : Prop :=
  w2.cell? ⟨wr.heap.size + 1, 0, none⟩ = some (.int .i64 o) ∧ w2.cell? ⟨wr.heap.size + 1, 1, none⟩ = some (.int .i64 d) ∧ w2.cell? ⟨wr.heap.size + 1, 2, none⟩ = some (.int .i64 a) ∧ w2.cell? ⟨wr.heap.size + 1, 3, none⟩ = some (.int .i64 b) ∧ w2.cell? ⟨wr.heap.size + 1, 4, none⟩ = some (.int .i64 n) ∧
    w2.ownsRow w.heap.size 39 5 v k xs ∧ w.heap.size ≤ w2.heap.size ∧ Below w.heap.size w w2
theorem aft_of {w wr w2 : World} {v : Value} {k : Nat} {xs : List Value} {o d a b n : Int} {A B : Obj} (hB : B = .cells #[.int .i64 o, .int .i64 d, .int .i64 a, .int .i64 b, .int .i64 n] 39) (hb : Below ((wr.alloc A).alloc B).heap.size ((wr.alloc A).alloc B) w2)
    (hz : w.heap.size ≤ wr.heap.size) (ho : wr.ownsRow w.heap.size 39 5 v k xs) (hw : Below w.heap.size w wr) : Aft w wr w2 v k xs o d a b n := by
  have s1 : (wr.alloc A).heap.size = wr.heap.size + 1 := by simp
  have s2 : ((wr.alloc A).alloc B).heap.size = wr.heap.size + 1 + 1 := by simp
  have hx : w2.heap[wr.heap.size + 1]? = some (.cells #[.int .i64 o, .int .i64 d, .int .i64 a, .int .i64 b, .int .i64 n] 39) := by
    rw [hb.block (wr.heap.size + 1) (by rw [s2]; omega), ← hB, ← s1]
    exact heap_alloc_last (wr.alloc A) B
  have hbw : Below wr.heap.size wr w2 := (((Below.refl _ _).alloc (Nat.le_refl _) A).alloc (by rw [s1]; omega) B).trans (hb.mono (by rw [s2]; omega))
  refine ⟨?_, ?_, ?_, ?_, ?_, ho.kept (row := none) ⟨hbw.os, hbw.tape, hbw.output, hbw.size, fun j hj _ => hbw.block j hj⟩ (by cases hv : v.ownBlock <;> simp), Nat.le_trans hz hbw.size, hw.trans (hbw.mono hz)⟩
  all_goals rw [cell_of_row _ _ _ _ _ _ hx]; rfl

theorem info30 : (Tryz.prog.info? 39).map (fun i => (i.zero, i.size, i.bytes)) = some (some (.agg #[.int .i64 0, .int .i64 0, .int .i64 0, .int .i64 0, .int .i64 0]), 5, 40) := by kernel_rfl

set_option maxRecDepth 100000 in
set_option maxHeartbeats 4000000 in
theorem finish_ok (w : World) (q : Option Addr) (g c b n : Nat) (ds : Drafts) (ps : Places) (out : List Dr) (he : Env w) (hlen : ds.length < 4294967281) (hq : 0 < ds.length → q = some ⟨g, 0, none⟩) (hg : g < w.heap.size) (hds : ∀ (i : Nat) (d : Dr) (k : Nat), ds[i]? = some (d, k) → Seven w g (i * 7) d k) (hp : PlAt w b n ps) (hf : FinOk ds ps out) :
    Calls Tryz.prog 28 #[.slice q ds.length c, .map (some b)] w fun e w' => ∃ v, e = .returned (.tuple #[v, .nilIface]) ∧ w'.ownsRow w.heap.size 39 5 v ds.length (ins out) ∧ Below w.heap.size w w' := by
  obtain ⟨i0, hi0, hz0, hz1, hz2⟩ := info_parts info30
  obtain ⟨L, hL⟩ : ∃ L, L = ds.length := ⟨_, rfl⟩
  rw [← hL]
  rw [← hL] at hlen hq
  have HE : Hid (∀ w', Below w.heap.size w w' → Env w') := fun w' hb => he.below hb
  have HD : Hid (∀ (i : Nat) (d : Dr) (k : Nat), ds[i]? = some (d, k) → Seven w g (i * 7) d k) := hds
  have HF : Hid (FinOk ds ps out) := hf
  have HP : Hid (PlAt w b n ps) := hp
  have HL : Hid (L = ds.length) := hL
  have hb2 : i0.bytes * L ≤ 281474976710656 := by rw [hz2]; omega
  have hb3 : L ≤ maxLen := by unfold maxLen; omega
  clear he hds hf hp hL
  go_enter Tryz.func28, Tryz.ntmps28
  go_wp2_with (at_make; refine wpList_make_own _ rfl _ _ 22 rfl w.heap.size 39 i0 _ 5 Tryz.underlying22 hi0 hz0 hz1 .i64 .i64 _ L rfl rfl rfl hb2 hb3 (Nat.le_refl _) ?_)
  intro w1 hown hgrow
  have HO1 : Hid (w1.ownsRow w.heap.size 39 5 (.slice (some ⟨w.heap.size, 0, none⟩) 0 L) 0 []) := hown
  have HB1 : Hid (Below w.heap.size w w1) := ⟨hgrow.os, hgrow.tape, hgrow.output, hgrow.size, fun k hk => hgrow.block k hk (by simp)⟩
  clear hown hgrow
  go_wp2_with fail
  go_loopw [6, 17] (fun v6 i wr => ∃ (k : Nat) (g6 c6 : Nat), k ≤ L ∧ i = .int .i64 k ∧ v6 = .slice (some ⟨g6, 0, none⟩) k c6 ∧ Hid (wr.ownsRow w.heap.size 39 5 (.slice (some ⟨g6, 0, none⟩) k c6) k (ins (out.take k)) ∧ Below w.heap.size w wr)) (fun _ i _ => L - (intOf i).toNat)
  case atStart => exact ⟨0, _, _, Nat.zero_le _, rfl, rfl, by simpa [ins] using HO1.out, HB1.out⟩
  case round =>
    obtain ⟨k, g6, c6, hk, rfl, rfl, hrr⟩ := hrel
    by_cases hlt : k < L
    · have hqq := hq (by omega)
      subst hqq
      obtain ⟨x, hx⟩ : ∃ x, ds[k]? = some x := by
        have : k < ds.length := by rw [← HL.out]; exact hlt
        exact ⟨_, List.getElem?_eq_getElem this⟩
      obtain ⟨⟨o1, d1, a1, b1, n1, pl1⟩, ln⟩ := x
      obtain ⟨N, hN, hR, hcase⟩ := HF.out.2 k _ _ hx
      simp only at hN hR hcase
      obtain ⟨s0, s1, s2, s3, s4, s5, s6⟩ := (HD.out k _ _ hx).below hg hrr.out.2
      simp only at s0 s1 s2 s3 s4 s5
      obtain ⟨x1, hx1⟩ : ∃ x : ByteArray, (⟨pl1.toArray⟩ : ByteArray) = x := ⟨_, rfl⟩
      have s5' : wr.cell? ⟨g, k * 7 + 5, none⟩ = some (.string x1) := by rw [s5, ← hx1]
      clear s5
      have hgr : g < wr.heap.size := by have := hrr.out.2.size; omega
      have HRT : Hid (∀ W', Below w.heap.size w W' → Calls Tryz.prog 36 #[instV o1 d1 a1 b1 N] W' fun e w'' => e = .returned (.bool true) ∧ Below W'.heap.size W' w'') := fun W' hb => by
        have := right_T o1 d1 a1 b1 N W' (HE.out W' hb).tab
        rw [hR] at this
        exact this
      have hzr : w.heap.size ≤ wr.heap.size := hrr.out.2.size
      have HFIN : Hid (∀ (A B : Obj) (w2 : World), B = .cells #[.int .i64 o1, .int .i64 d1, .int .i64 a1, .int .i64 b1, .int .i64 N] 39 → Below ((wr.alloc A).alloc B).heap.size ((wr.alloc A).alloc B) w2 → Aft w wr w2 (.slice (some ⟨g6, 0, none⟩) k c6) k (ins (out.take k)) o1 d1 a1 b1 N) := fun A B w2 hB hb => aft_of hB hb hzr hrr.out.1 hrr.out.2
      have HOUT : Hid (ins (out.take (k + 1)) = ins (out.take k) ++ [.int .i64 o1, .int .i64 d1, .int .i64 a1, .int .i64 b1, .int .i64 N]) := ins_take out k _ hN
      have HB2 : Hid (∀ (A B : Obj), Below w.heap.size w ((wr.alloc A).alloc B)) := fun A B => (hrr.out.2.alloc hzr A).alloc (by simp; omega) B
      clear hN hR
      rcases hcase with ⟨hpl, rfl⟩ | ⟨hpl, hpl2, j, hj, hlk, rfl⟩
      · subst hpl
        subst hx1
        go_wp2_with (go_at_call 36; fail)
        refine (HRT.out _ (HB2.out _ _)).mono ?_
        rintro e w2 ⟨rfl, hb2⟩
        have hA := HFIN.out _ _ w2 rfl hb2
        clear hb2
        obtain ⟨y0, y1, y2, y3, y4, hown2, hsz2, hbel2⟩ := hA
        have HW2 : Hid ((w2.alloc (.cells #[.int .i64 o1, .int .i64 d1, .int .i64 a1, .int .i64 b1, .int .i64 N] 39)).ownsRow w.heap.size 39 5 (.slice (some ⟨g6, 0, none⟩) k c6) k (ins (out.take k))) := hown2.alloc _
        have HN2 : Hid (∀ (j : Nat) (x : Value), [Value.int .i64 o1, .int .i64 d1, .int .i64 a1, .int .i64 b1, .int .i64 N][j]? = some x → (w2.alloc (.cells #[.int .i64 o1, .int .i64 d1, .int .i64 a1, .int .i64 b1, .int .i64 N] 39)).cell? ((⟨w2.heap.size, 0, none⟩ : Addr).add j) = some x) := World.news_of_block (cs := #[.int .i64 o1, .int .i64 d1, .int .i64 a1, .int .i64 b1, .int .i64 N]) (t := 39) (fr := (0, 0)) (heap_alloc_last w2 _)
        have H12 : Hid (∀ u ∈ [Value.int .i64 o1, .int .i64 d1, .int .i64 a1, .int .i64 b1, .int .i64 N], u.oneCell' = true) := fun u hu => by simp at hu; rcases hu with rfl | rfl | rfl | rfl | rfl <;> rfl
        have HZ2 : Hid (w.heap.size ≤ (w2.alloc (.cells #[.int .i64 o1, .int .i64 d1, .int .i64 a1, .int .i64 b1, .int .i64 N] 39)).heap.size) := by show _ ≤ _; simp; omega
        have HBB : Hid (Below w.heap.size w (w2.alloc (.cells #[.int .i64 o1, .int .i64 d1, .int .i64 a1, .int .i64 b1, .int .i64 N] 39))) := hbel2.alloc hsz2 _
        clear hown2 hbel2
        go_wp2_with (at_builtin; refine wpList_append_own _ rfl _ _ 22 rfl w.heap.size 39 i0 _ 5 40 Tryz.underlying22 hi0 hz0 hz1 hz2 rfl (by decide) _ k _ rfl HW2.out ⟨w2.heap.size, 0, none⟩ 1 1 [.int .i64 o1, .int .i64 d1, .int .i64 a1, .int .i64 b1, .int .i64 N] rfl rfl HN2.out H12.out (by unfold maxLen; omega) (by omega) HZ2.out ?_)
        intro v3 w3 hown3 hgrow3 _
        have hb3 : Below w.heap.size w w3 := HBB.out.grown hgrow3 HZ2.out (fun j ej => (HW2.out.lt j ej).1)
        obtain ⟨g3, c3, rfl⟩ := ownsRow_some hown3
        have HQ3 : Hid (w3.ownsRow w.heap.size 39 5 (.slice (some ⟨g3, 0, none⟩) (k + 1) c3) (k + 1) (ins (out.take (k + 1))) ∧ Below w.heap.size w w3) := ⟨by rw [HOUT.out]; exact hown3, hb3⟩
        clear hown3 hgrow3 hb3
        go_wp2
        exact ⟨⟨k + 1, g3, c3, by omega, by go_num, rfl, HQ3.out⟩, by simp [intOf]; omega⟩
      · have hxd : x1.data.toList = pl1 := by rw [← hx1]
        have hxs : x1.size ≤ maxLen := by
          have : x1.data.toList.length = x1.size := by simp
          rw [hxd] at this
          unfold maxLen
          omega
        have hne : ¬ x1 = ⟨#[]⟩ := by
          intro e
          rw [e] at hxd
          exact hpl (by rw [← hxd])
        have hne2 : x1.toList.isEmpty = false := ba_ne x1 hne
        have hlook : ∀ W', Below w.heap.size w W' → (Instr.lookup 53 (.map (some b)) (.string x1) true).run Tryz.prog W' = .ok (.tuple #[.int .i64 (j : Int), .bool true]) W' := fun W' hb => by
          have hpw : PlAt W' b n ps := HP.out.kept (row := none) ⟨hb.os, hb.tape, hb.output, hb.size, fun j hj _ => hb.block j hj⟩ (by simp)
          obtain ⟨v, hrun, hv⟩ := look_any hpw x1 hxs
          rw [hxd, hlk] at hrun
          rw [hxd] at hv
          rw [hv j hlk] at hrun
          exact hrun
        have hlook1 := hlook _ (HB2.out (.cells #[.int .i64 o1, .int .i64 d1, .int .i64 a1, .int .i64 b1, .int .i64 n1, .string x1, .int .i64 ln] 71) (.cells #[.int .i64 o1, .int .i64 d1, .int .i64 a1, .int .i64 b1, .int .i64 n1] 39))
        have hX : Hid ((⟨pl1.toArray⟩ : ByteArray) = x1) := hx1
        clear hlook hxd hpl hpl2 hlk hx1 hx
        go_wp2_with (go_at_call 36; fail)
        refine (HRT.out _ (HB2.out _ _)).mono ?_
        rintro e w2 ⟨rfl, hb2⟩
        have hA := HFIN.out _ _ w2 rfl hb2
        clear hb2
        obtain ⟨y0, y1, y2, y3, y4, hown2, hsz2, hbel2⟩ := hA
        have HW2 : Hid ((w2.alloc (.cells #[.int .i64 o1, .int .i64 d1, .int .i64 a1, .int .i64 b1, .int .i64 (4 * ((j : Int) - k))] 39)).ownsRow w.heap.size 39 5 (.slice (some ⟨g6, 0, none⟩) k c6) k (ins (out.take k))) := hown2.alloc _
        have HN2 : Hid (∀ (jj : Nat) (x : Value), [Value.int .i64 o1, .int .i64 d1, .int .i64 a1, .int .i64 b1, .int .i64 (4 * ((j : Int) - k))][jj]? = some x → (w2.alloc (.cells #[.int .i64 o1, .int .i64 d1, .int .i64 a1, .int .i64 b1, .int .i64 (4 * ((j : Int) - k))] 39)).cell? ((⟨w2.heap.size, 0, none⟩ : Addr).add jj) = some x) := World.news_of_block (cs := #[.int .i64 o1, .int .i64 d1, .int .i64 a1, .int .i64 b1, .int .i64 (4 * ((j : Int) - k))]) (t := 39) (fr := (0, 0)) (heap_alloc_last w2 _)
        have H12 : Hid (∀ u ∈ [Value.int .i64 o1, .int .i64 d1, .int .i64 a1, .int .i64 b1, .int .i64 (4 * ((j : Int) - k))], u.oneCell' = true) := fun u hu => by simp at hu; rcases hu with rfl | rfl | rfl | rfl | rfl <;> rfl
        have HZ2 : Hid (w.heap.size ≤ (w2.alloc (.cells #[.int .i64 o1, .int .i64 d1, .int .i64 a1, .int .i64 b1, .int .i64 (4 * ((j : Int) - k))] 39)).heap.size) := by show _ ≤ _; simp; omega
        have HBB : Hid (Below w.heap.size w (w2.alloc (.cells #[.int .i64 o1, .int .i64 d1, .int .i64 a1, .int .i64 b1, .int .i64 (4 * ((j : Int) - k))] 39))) := hbel2.alloc hsz2 _
        clear hown2 hbel2
        go_wp2_with (at_builtin; refine wpList_append_own _ rfl _ _ 22 rfl w.heap.size 39 i0 _ 5 40 Tryz.underlying22 hi0 hz0 hz1 hz2 rfl (by decide) _ k _ rfl HW2.out ⟨w2.heap.size, 0, none⟩ 1 1 [.int .i64 o1, .int .i64 d1, .int .i64 a1, .int .i64 b1, .int .i64 (4 * ((j : Int) - k))] rfl rfl HN2.out H12.out (by unfold maxLen; omega) (by omega) HZ2.out ?_)
        intro v3 w3 hown3 hgrow3 _
        have hb3 : Below w.heap.size w w3 := HBB.out.grown hgrow3 HZ2.out (fun j ej => (HW2.out.lt j ej).1)
        obtain ⟨g3, c3, rfl⟩ := ownsRow_some hown3
        have HQ3 : Hid (w3.ownsRow w.heap.size 39 5 (.slice (some ⟨g3, 0, none⟩) (k + 1) c3) (k + 1) (ins (out.take (k + 1))) ∧ Below w.heap.size w w3) := ⟨by rw [HOUT.out]; exact hown3, hb3⟩
        clear hown3 hgrow3 hb3
        go_wp2
        exact ⟨⟨k + 1, g3, c3, by omega, by go_num, rfl, HQ3.out⟩, by simp [intOf]; omega⟩
    · obtain rfl : k = L := by omega
      have e1 : out.take k = out := List.take_of_length_le (by rw [HF.out.1, ← HL.out]; exact Nat.le_refl _)
      have HR : Hid (wr.ownsRow w.heap.size 39 5 (.slice (some ⟨g6, 0, none⟩) k c6) k (ins out) ∧ Below w.heap.size w wr) := by
        have := hrr.out
        rw [e1] at this
        exact this
      clear e1 hrr
      go_wp2
      go_ret2
      exact ⟨_, rfl, HR.out.1, HR.out.2⟩
end Go.Proofs.YtjjjdplgdlaihaaGreatDoor

namespace Go.Proofs.YtjjjdplgdlaihaaGreatDoor
open Go Go.RowKit

/-- An instruction's cells, from place p of block g on. -/
structure Five (w : World) (g p : Nat) (d : Dr) : Prop where
  c0 : w.cell? ⟨g, p, none⟩ = some (.int .i64 d.o)
  c1 : w.cell? ⟨g, p + 1, none⟩ = some (.int .i64 d.d)
  c2 : w.cell? ⟨g, p + 2, none⟩ = some (.int .i64 d.a)
  c3 : w.cell? ⟨g, p + 3, none⟩ = some (.int .i64 d.b)
  c4 : w.cell? ⟨g, p + 4, none⟩ = some (.int .i64 d.n)
/-- A slice's instructions. -/
def Sl (w : World) (q : Option Addr) (l : List Dr) : Prop := ∃ g p, (0 < l.length → q = some ⟨g, p, none⟩) ∧ ∀ (i : Nat) (d : Dr), l[i]? = some d → Five w g (p + i * 5) d

set_option maxRecDepth 100000 in
set_option maxHeartbeats 2000000 in
theorem equal_yes (w : World) (q1 q2 : Option Addr) (c1 c2 L : Nat) (l : List Dr) (hl : L = l.length) (hb : L < 4294967281) (h1 : Sl w q1 l) (h2 : Sl w q2 l) :
    Calls Tryz.prog 18 #[.slice q1 L c1, .slice q2 L c2] w fun e w' => e = .returned (.bool true) ∧ Below w.heap.size w w' := by
  obtain ⟨g1, p1, e1, f1⟩ := h1
  obtain ⟨g2, p2, e2, f2⟩ := h2
  rw [← hl] at e1 e2
  have HL : Hid (L = l.length) := hl
  have F1 : Hid (∀ (i : Nat) (d : Dr), l[i]? = some d → Five w g1 (p1 + i * 5) d) := f1
  have F2 : Hid (∀ (i : Nat) (d : Dr), l[i]? = some d → Five w g2 (p2 + i * 5) d) := f2
  clear hl f1 f2
  go_enter Tryz.func18, Tryz.ntmps18
  go_wp2_with fail
  go_loopw [13] (fun i wr => ∃ k : Nat, k ≤ L ∧ i = .int .i64 k ∧ Hid (Below w.heap.size w wr ∧ wr.heap = w.heap)) (fun i _ => L - (intOf i).toNat)
  case atStart => exact ⟨0, Nat.zero_le _, rfl, Below.refl _ _, rfl⟩
  case round =>
    obtain ⟨k, hk, rfl, hw⟩ := hrel
    by_cases hlt : k < L
    · obtain ⟨x, hx⟩ : ∃ x, l[k]? = some x := ⟨_, List.getElem?_eq_getElem (by rw [← HL.out]; exact hlt)⟩
      have hq1 := e1 (by omega)
      have hq2 := e2 (by omega)
      subst hq1
      subst hq2
      have hcell : ∀ a, wr.cell? a = w.cell? a := fun a => World.cell?_of_block (w := w) (by rw [hw.out.2])
      obtain ⟨a0, a1, a2, a3, a4⟩ := F1.out k x hx
      obtain ⟨b0, b1, b2, b3, b4⟩ := F2.out k x hx
      rw [← hcell] at a0 a1 a2 a3 a4 b0 b1 b2 b3 b4
      clear hcell hx
      go_wp2_with fail
      go_region
      all_goals go_wp2
      all_goals exact ⟨⟨k + 1, by omega, by go_num, hw.out.1.drew, hw.out.2⟩, by simp [intOf]; omega⟩
    · obtain rfl : k = L := by omega
      go_wp2
      go_ret
      exact ⟨rfl, hw.out.1⟩
end Go.Proofs.YtjjjdplgdlaihaaGreatDoor
