/- T3 T4 T5 -/
import Derived.Test.YtnfhpdbbfejioaaGreatDoorE00
import Derived.WalkLawsBesides
import Derived.Deep.AppendLies
namespace Go.Proofs.YtnfhpdbbfejioaaGreatDoor
set_option linter.unusedVariables false
set_option linter.unusedSimpArgs false
set_option maxRecDepth 100000
set_option maxHeartbeats 16000000
open Go Go.RowKit
def zC (k : Int) (p : Nat) (e : Ending) (w' : World) : Prop := ∃ a, e = .panicked [{ v := .iface 72 (.pointer (some ⟨a, 0, none⟩)), recovered := false }] ∧ w'.heap[a]? = some (.cells #[.int .i64 k, .int .i64 (p : Int)] 139)
theorem ix_mark (j : Nat) (hj : j < 24) (W : World) : (Instr.index 190 (.agg (marksL.map str).toArray) (.int .i64 (j : Int))).run Tryz.prog W = .ok (str (marksL.getD j [])) W := by
 have hc : j = 0 ∨ j = 1 ∨ j = 2 ∨ j = 3 ∨ j = 4 ∨ j = 5 ∨ j = 6 ∨ j = 7 ∨ j = 8 ∨ j = 9 ∨ j = 10 ∨ j = 11 ∨ j = 12 ∨ j = 13 ∨ j = 14 ∨ j = 15 ∨ j = 16 ∨ j = 17 ∨ j = 18 ∨ j = 19 ∨ j = 20 ∨ j = 21 ∨ j = 22 ∨ j = 23 := by omega
 rcases hc with rfl | rfl | rfl | rfl | rfl | rfl | rfl | rfl | rfl | rfl | rfl | rfl | rfl | rfl | rfl | rfl | rfl | rfl | rfl | rfl | rfl | rfl | rfl | rfl <;> rfl
theorem bytes_neq {b s : ByteArray} (h : ¬ b = s) : (b.toList == s.toList) = false := by
 rw [Lib.toList_data, Lib.toList_data]
 simp only [beq_eq_false_iff_ne, ne_eq]
 intro e
 exact h (ba_inj e)
theorem ba_ne (x : ByteArray) (h : ¬ x = ⟨#[]⟩) : x.toList.isEmpty = false := by
 have h1 := bytes_neq h
 have e : (⟨#[]⟩ : ByteArray).toList = [] := by simp
 rw [e] at h1
 cases hx : x.toList with
 | nil => rw [hx] at h1; simp at h1
 | cons _ _ => rfl
theorem str_ne {l : By} (h : ¬ l = []) : (⟨l.toArray⟩ : ByteArray).toList.isEmpty = false := ba_ne _ (fun e => h (by
 have : (⟨l.toArray⟩ : ByteArray).data.toList = [] := by rw [e]
 simpa using this))
def setW : ByteArray := ⟨#[97, 98, 99, 100, 101, 102, 103, 104, 105, 106, 107, 108, 109, 110, 111, 112, 113, 114, 115, 116, 117, 118, 119, 120, 121, 122, 95, 48, 49, 50, 51, 52, 53, 54, 55, 56, 57]⟩
def setD : ByteArray := ⟨#[48, 49, 50, 51, 52, 53, 54, 55, 56, 57]⟩
theorem zb {w : World} {g : Nat} {cs : Array Value} {t : TypeId} (h : w.heap[g]? = some (.cells cs t)) (i : Nat) : w.frozen? ⟨g, i, none⟩ = false := by simp [World.frozen?, h]
theorem qJ {w : World} {g : Nat} {o : Obj} (h : w.heap[g]? = some o) (A : Obj) : (w.alloc A).heap[g]? = some o := by
 rw [((Below.refl w.heap.size w).alloc (Nat.le_refl _) A).block g (Array.getElem?_eq_some_iff.1 h).1]; exact h
structure TkAt (w : World) (g : Nat) (a b c : Value) : Prop where
 h : w.heap[g]? = some (.cells #[a, b, c] 136)
 c0 : w.cell? ⟨g, 0, none⟩ = some a
 c1 : w.cell? ⟨g, 1, none⟩ = some b
 c2 : w.cell? ⟨g, 2, none⟩ = some c
 f0 : w.frozen? ⟨g, 0, none⟩ = false
 f1 : w.frozen? ⟨g, 1, none⟩ = false
 f2 : w.frozen? ⟨g, 2, none⟩ = false
theorem tkAt {w : World} {g : Nat} {a b c : Value} (h : w.heap[g]? = some (.cells #[a, b, c] 136)) : TkAt w g a b c :=
 ⟨h, by rw [cell_of_row _ _ _ _ _ _ h]; rfl, by rw [cell_of_row _ _ _ _ _ _ h]; rfl, by rw [cell_of_row _ _ _ _ _ _ h]; rfl, zb h 0, zb h 1, zb h 2⟩
theorem tk_set {w : World} {g : Nat} {a b c : Value} (h : w.heap[g]? = some (.cells #[a, b, c] 136)) (x y z : Value) : (((w.setCell ⟨g, 0, none⟩ x).setCell ⟨g, 1, none⟩ y).setCell ⟨g, 2, none⟩ z).heap[g]? = some (.cells #[x, y, z] 136) :=
 heap_setCell_same _ _ _ _ _ _ (heap_setCell_same _ _ _ _ _ _ (heap_setCell_same _ _ _ _ _ _ h))
theorem below_set3 {B : Nat} {w w' : World} {g : Nat} (h : Below B w w') (hg : B ≤ g) (x y z : Value) : Below B w (((w'.setCell ⟨g, 0, none⟩ x).setCell ⟨g, 1, none⟩ y).setCell ⟨g, 2, none⟩ z) :=
 ((h.setCell (p := ⟨g, 0, none⟩) hg _).setCell (p := ⟨g, 1, none⟩) hg _).setCell (p := ⟨g, 2, none⟩) hg _
theorem zR {fn : Func} {p : Tmp} {ty : TypeId} (h : fn.results = #[.cell p ty]) (tmps : Array Value) (P : Program) (w : World) :
  (results fn tmps).run P w = ((asAddr (tmps.getD p undef)).run P w).andThen fun a w₁ => (loadVar ty a).run P w₁ := by
 simp only [results, h]
 simp [Sem.run_bind, Result.andThen]
theorem resTok {fn : Func} {p : Tmp} (h : fn.results = #[.cell p 136]) (tmps : Array Value) (w : World) (g : Nat) (a b c : Value) (hp : tmps.getD p undef = .pointer (some ⟨g, 0, none⟩)) (hg : w.heap[g]? = some (.cells #[a, b, c] 136)) :
  (results fn tmps).run Tryz.prog w = .ok (.agg #[a, b, c]) w := by
 rw [zR h, hp]
 have h1 : (loadVar 136 ⟨g, 0, none⟩).run Tryz.prog w = .ok (.agg #[a, b, c]) w := run_loadVar_row w g 136 136 _ (0, 0) _ hg Tryz.underlying136 rfl (by kernel_rfl)
 simp only [asAddr, Sem.run_pure, Result.andThen_ok, h1]
theorem tokenAt_core (s : ByteArray) (k b : Nat) (w : World) (d1 d2 : ByteArray) (kd : Int) (he : Env w) (hk : k ≤ s.size)
  (H1 : Hid (∀ W, Calls Tryz.prog 90 #[.string (s.extract k s.size), .string setD] W fun e w' => e = .returned (.string d1) ∧ Below W.heap.size W w'))
  (H2 : Hid (∀ W, Calls Tryz.prog 90 #[.string (s.extract k s.size), .string setW] W fun e w' => e = .returned (.string d2) ∧ Below W.heap.size W w'))
  (hm : Hid (∀ W, Below w.heap.size w W → (Instr.lookup 131 (.map (some b)) (.string d2) false).run Tryz.prog W = .ok (.int .i64 kd) W))
  (h : d1.toList.isEmpty = false ∨ (d1 = ⟨#[]⟩ ∧ d2.toList.isEmpty = false)) :
  Calls Tryz.prog 58 #[.string s, .int .i64 k, .map (some b)] w fun e w' => (e = .returned (if d1.toList.isEmpty = false then .agg #[.int .i64 2, .string d1, .int .i64 k] else .agg #[.int .i64 kd, .string d2, .int .i64 k])) ∧ Below w.heap.size w w' := by
 unfold setD setW at *
 rcases h with h | ⟨rfl, h⟩
 ·rw [if_pos h]
  go_enter Tryz.func58, Tryz.ntmps58
  go_wp2_with (go_at_call 90; refine (H1.out _).mono ?_; rintro e w1 ⟨rfl, hb⟩; have HB : Hid (Below w.heap.size w w1) := ((Below.refl _ _).alloc (Nat.le_refl _) _).trans (hb.mono (by simp)); have hx : w1.heap[w.heap.size]? = some (.cells #[.int .i64 0, .string ⟨#[]⟩, .int .i64 0] 136) := (by rw [hb.block _ (by simp)]; exact heap_alloc_last w _); have HX : Hid (w1.heap[w.heap.size]? = some (.cells #[.int .i64 0, .string ⟨#[]⟩, .int .i64 0] 136)) := hx; obtain ⟨_, c0, c1, c2, f0, f1, f2⟩ := tkAt hx; clear hb hx)
  exact bodyPost_ret (resTok Tryz.results58 _ _ w.heap.size _ _ _ rfl (tk_set HX.out _ _ _)) rfl ⟨rfl, below_set3 HB.out (Nat.le_refl _) _ _ _⟩
 ·have h0 : ¬ (⟨#[]⟩ : ByteArray).toList.isEmpty = false := by simp
  rw [if_neg h0]
  clear h0
  go_enter Tryz.func58, Tryz.ntmps58
  go_wp2_with (go_at_call 90; fail)
  refine (H1.out _).mono ?_
  rintro e w1 ⟨rfl, hb1⟩
  have HB1 : Hid (Below w.heap.size w w1) := ((Below.refl _ _).alloc (Nat.le_refl _) _).trans (hb1.mono (by simp))
  have HX1 : Hid (w1.heap[w.heap.size]? = some (.cells #[.int .i64 0, .string ⟨#[]⟩, .int .i64 0] 136)) := by show _ = _; rw [hb1.block _ (by simp)]; exact heap_alloc_last w _
  clear hb1
  go_wp2_with (go_at_call 90; fail)
  refine (H2.out _).mono ?_
  rintro e w2 ⟨rfl, hb2⟩
  have HB2 : Hid (Below w.heap.size w w2) := HB1.out.trans (hb2.mono HB1.out.size)
  have HX2 : Hid (w2.heap[w.heap.size]? = some (.cells #[.int .i64 0, .string ⟨#[]⟩, .int .i64 0] 136)) := by show _ = _; rw [hb2.block _ (Array.getElem?_eq_some_iff.1 HX1.out).1]; exact HX1.out
  obtain ⟨_, c0, c1, c2, f0, f1, f2⟩ := tkAt HX2.out
  have hlk := hm.out w2 HB2.out
  clear hb2
  go_wp2
  exact bodyPost_ret (resTok Tryz.results58 _ _ w.heap.size _ _ _ rfl (tk_set HX2.out _ _ _)) rfl ⟨rfl, below_set3 HB2.out (Nat.le_refl _) _ _ _⟩
theorem find_at : ∀ (l : List By) (r m : By), l.find? (·.isPrefixOf r) = some m → ∃ J, J < l.length ∧ l.getD J [] = m ∧ m.isPrefixOf r = true ∧ ∀ j, j < J → (l.getD j []).isPrefixOf r = false
 | [], r, m, h => by simp at h
 | x :: l, r, m, h => by
  rw [List.find?_cons] at h
  cases hx : x.isPrefixOf r with
  | true =>
   rw [hx] at h
   injection h with h
   subst h
   exact ⟨0, by simp, rfl, hx, fun j hj => by omega⟩
  | false =>
   rw [hx] at h
   obtain ⟨J, h1, h2, h3, h4⟩ := find_at l r m h
   refine ⟨J + 1, by simp; omega, by simpa using h2, h3, fun j hj => ?_⟩
   cases j with
   | zero => simpa using hx
   | succ j => simpa using h4 j (by omega)
theorem find_no : ∀ (l : List By) (r : By), l.find? (·.isPrefixOf r) = none → ∀ j, j < l.length → (l.getD j []).isPrefixOf r = false
 | [], r, h, j, hj => by simp at hj
 | x :: l, r, h, j, hj => by
  rw [List.find?_cons] at h
  cases hx : x.isPrefixOf r with
  | true => rw [hx] at h; cases h
  | false =>
   rw [hx] at h
   cases j with
   | zero => simpa using hx
   | succ j => simpa using find_no l r h j (by simpa using hj)
def MkPost (J k : Nat) (e : Ending) (w' : World) : Prop := if J < 24 then e = .returned (.agg #[.int .i64 1, str (marksL.getD J []), .int .i64 k]) else zC 3 k e w'
theorem tokenAt_mark (s : ByteArray) (k b : Nat) (w : World) (he : Env w) (hk : k ≤ s.size) (J : Nat) (hJ : J ≤ 24)
  (H1 : Hid (∀ W, Calls Tryz.prog 90 #[.string (s.extract k s.size), .string setD] W fun e w' => e = .returned (.string ⟨#[]⟩) ∧ Below W.heap.size W w'))
  (H2 : Hid (∀ W, Calls Tryz.prog 90 #[.string (s.extract k s.size), .string setW] W fun e w' => e = .returned (.string ⟨#[]⟩) ∧ Below W.heap.size W w'))
  (hno : ∀ j, j < J → (marksL.getD j []).isPrefixOf (s.extract k s.size).data.toList = false)
  (hyes : J < 24 → (marksL.getD J []).isPrefixOf (s.extract k s.size).data.toList = true) :
  Calls Tryz.prog 58 #[.string s, .int .i64 k, .map (some b)] w fun e w' => MkPost J k e w' ∧ Below w.heap.size w w' := by
 unfold setD setW at *
 have HNo : Hid (∀ j, j < J → (marksL.getD j []).isPrefixOf (s.extract k s.size).data.toList = false) := hno
 have HYes : Hid (J < 24 → (marksL.getD J []).isPrefixOf (s.extract k s.size).data.toList = true) := hyes
 have HE : Hid (∀ w', Below w.heap.size w w' → Env w') := fun w' hb => he.below hb
 have HPf : Hid (∀ (j : Nat) (W : World), Calls Tryz.prog 91 #[.string (s.extract k s.size), str (marksL.getD j [])] W fun e w' => e = .returned (.bool ((marksL.getD j []).isPrefixOf (s.extract k s.size).data.toList)) ∧ w' = W) := fun j W => Tryz.strings_HasPrefix (s.extract k s.size) ⟨(marksL.getD j []).toArray⟩ W
 clear hno hyes he
 go_enter Tryz.func58, Tryz.ntmps58
 go_wp2_with (go_at_call 90; fail)
 refine (H1.out _).mono ?_
 rintro e w1 ⟨rfl, hb1⟩
 have HB1 : Hid (Below w.heap.size w w1) := ((Below.refl _ _).alloc (Nat.le_refl _) _).trans (hb1.mono (by simp))
 have HX1 : Hid (w1.heap[w.heap.size]? = some (.cells #[.int .i64 0, .string ⟨#[]⟩, .int .i64 0] 136)) := by show _ = _; rw [hb1.block _ (by simp)]; exact heap_alloc_last w _
 clear hb1
 go_wp2_with (go_at_call 90; fail)
 refine (H2.out _).mono ?_
 rintro e w2 ⟨rfl, hb2⟩
 have HB2 : Hid (Below w.heap.size w w2) := HB1.out.trans (hb2.mono HB1.out.size)
 have HX2 : Hid (w2.heap[w.heap.size]? = some (.cells #[.int .i64 0, .string ⟨#[]⟩, .int .i64 0] 136)) := by show _ = _; rw [hb2.block _ (Array.getElem?_eq_some_iff.1 HX1.out).1]; exact HX1.out
 have HMk : Hid (w2.rangeAt 1 0 (marksL.map str)) := (HE.out w2 HB2.out).marks
 obtain ⟨_, c0, c1, c2, f0, f1, f2⟩ := tkAt HX2.out
 have hlt : w.heap.size < w2.heap.size := (Array.getElem?_eq_some_iff.1 HX2.out).1
 clear hb2 HX1 HB1
 go_wp2_with (refine wpList_load_mid rfl 190 _ rfl 1 0 rfl _ _ HMk.out Tryz.underlying190 rfl (by kernel_rfl) ?_)
 clear HMk
 go_loopw [33] (fun i wr => ∃ j : Nat, j ≤ J ∧ i = .int .i64 j ∧ wr = w2) (fun i _ => 24 - (intOf i).toNat)
 case atStart => exact ⟨0, Nat.zero_le _, rfl, rfl⟩
 case round =>
  obtain ⟨j, hj, rfl, rfl⟩ := hrel
  by_cases hlt2 : j < J
  ·have hj24 : j < 24 := by omega
   have hix := ix_mark j hj24
   have HP : Hid (∀ W, Calls Tryz.prog 91 #[.string (s.extract k s.size), str (marksL.getD j [])] W fun e w' => e = .returned (.bool false) ∧ w' = W) := fun W => by
    have := HPf.out j W
    rw [HNo.out j hlt2] at this
    exact this
   generalize marksL.getD j [] = mj at *
   go_wp2_with (go_at_call 91; refine (HP.out _).mono ?_; rintro e w3 ⟨rfl, rfl⟩)
   exact ⟨⟨j + 1, by omega, by go_num, trivial⟩, by simp [intOf]; omega⟩
  ·obtain rfl : j = J := by omega
   by_cases hj24 : j < 24
   ·have HPo : Hid (∀ e w', e = .returned (.agg #[.int .i64 1, str (marksL.getD j []), .int .i64 k]) → MkPost j k e w') := fun e w' h => by unfold MkPost; rw [if_pos hj24]; exact h
    have hix := ix_mark j hj24
    have HP : Hid (∀ W, Calls Tryz.prog 91 #[.string (s.extract k s.size), str (marksL.getD j [])] W fun e w' => e = .returned (.bool true) ∧ w' = W) := fun W => by
     have := HPf.out j W
     rw [HYes.out hj24] at this
     exact this
    generalize marksL.getD j [] = mj at *
    go_wp2_with (go_at_call 91; refine (HP.out _).mono ?_; rintro e w3 ⟨rfl, rfl⟩)
    exact bodyPost_ret (resTok Tryz.results58 _ _ w.heap.size _ _ _ rfl (tk_set HX2.out _ _ _)) rfl ⟨HPo.out _ _ rfl, below_set3 HB2.out (Nat.le_refl _) _ _ _⟩
   ·obtain rfl : j = 24 := by omega
    have HPo : Hid (∀ e w', zC 3 k e w' → MkPost 24 k e w') := fun e w' h => by unfold MkPost; rw [if_neg (by omega)]; exact h
    go_wp2
    exact ⟨rfl, HPo.out _ _ ⟨_, rfl, heap_alloc_last wr _⟩, HB2.out.alloc (Nat.le_of_lt hlt) _⟩
theorem tokenAt_yes (s : ByteArray) (k b : Nat) (w : World) (he : Env w) (hm : MpAt w b 12 wdP) (hk : k ≤ s.size) (hs : s.size ≤ 1000000) (kd : Nat) (t : By) (h : oneTok (s.data.toList.drop k) = some (kd, t)) :
  Calls Tryz.prog 58 #[.string s, .int .i64 k, .map (some b)] w fun e w' => e = .returned (.agg #[.int .i64 (kd : Int), str t, .int .i64 k]) ∧ Below w.heap.size w w' := by
 have hex : (s.extract k s.size).data.toList = s.data.toList.drop k := Lib.extract_to_end s k
 have hrs : (s.extract k s.size).size ≤ 1000000 := by
  have e : (s.extract k s.size).size = (s.extract k s.size).data.toList.length := by simp
  have e2 : s.data.toList.length = s.size := by simp
  rw [e, hex, List.length_drop]; omega
 have H1 : Hid (∀ W, Calls Tryz.prog 90 #[.string (s.extract k s.size), .string setD] W fun e w' => e = .returned (str (zL (s.data.toList.drop k) digs)) ∧ Below W.heap.size W w') := fun W => by
  rw [← hex]; exact run_any (s.extract k s.size) setD W (by decide) hrs (by decide)
 have H2 : Hid (∀ W, Calls Tryz.prog 90 #[.string (s.extract k s.size), .string setW] W fun e w' => e = .returned (str (zL (s.data.toList.drop k) (lets ++ digs))) ∧ Below W.heap.size W w') := fun W => by
  rw [← hex]; exact run_any (s.extract k s.size) setW W (by decide) hrs (by decide)
 have hlk : ∀ W, Below w.heap.size w W → (Instr.lookup 131 (.map (some b)) (.string ⟨(zL (s.data.toList.drop k) (lets ++ digs)).toArray⟩) false).run Tryz.prog W = .ok (.int .i64 ((if wordsL.contains (zL (s.data.toList.drop k) (lets ++ digs)) then 1 else 0 : Nat) : Int)) W := fun W hb => by
  have := mp_look (hm.below hb) ⟨(zL (s.data.toList.drop k) (lets ++ digs)).toArray⟩ (by
   have h1 : (zL (s.data.toList.drop k) (lets ++ digs)).length ≤ (s.data.toList.drop k).length := (List.takeWhile_prefix _).length_le
   have e2 : s.data.toList.length = s.size := by simp
   rw [List.length_drop] at h1
   simp [ByteArray.size]
   unfold maxLen; omega)
  simpa using this
 unfold oneTok at h
 by_cases hd : zL (s.data.toList.drop k) digs = []
 ·rw [if_neg (by simpa using hd)] at h
  have e0 : str (zL (s.data.toList.drop k) digs) = .string ⟨#[]⟩ := by rw [hd]
  by_cases hv : zL (s.data.toList.drop k) (lets ++ digs) = []
  ·rw [if_neg (by simpa using hv)] at h
   obtain ⟨m, hfm, he2⟩ := Option.map_eq_some_iff.1 h
   injection he2 with h1 h2
   subst h1; subst h2
   obtain ⟨J, j1, j2, j3, j4⟩ := find_at _ _ _ hfm
   have e1 : str (zL (s.data.toList.drop k) (lets ++ digs)) = .string ⟨#[]⟩ := by rw [hv]
   rw [e0] at H1
   rw [e1] at H2
   have j1' : J < 24 := j1
   refine (tokenAt_mark s k b w he hk J (by omega) H1 H2 (fun j hj => by rw [hex]; exact j4 j hj) (fun _ => by rw [hex, j2]; exact j3)).mono ?_
   rintro e w' ⟨a, b⟩
   unfold MkPost at a
   rw [if_pos j1', j2] at a
   exact ⟨a, b⟩
  ·rw [if_pos hv] at h
   injection h with h
   injection h with h1 h2
   subst h1; subst h2
   rw [e0] at H1
   refine (tokenAt_core s k b w ⟨#[]⟩ _ _ he hk H1 H2 hlk (.inr ⟨rfl, str_ne hv⟩)).mono ?_
   rintro e w' ⟨a, b⟩
   rw [if_neg (by simp)] at a
   exact ⟨a, b⟩
 ·rw [if_pos hd] at h
  injection h with h
  injection h with h1 h2
  subst h1; subst h2
  refine (tokenAt_core s k b w _ _ _ he hk H1 H2 hlk (.inl (str_ne hd))).mono ?_
  rintro e w' ⟨a, b⟩
  rw [if_pos (str_ne hd)] at a
  exact ⟨a, b⟩
theorem tokenAt_no (s : ByteArray) (k b : Nat) (w : World) (he : Env w) (hk : k ≤ s.size) (hs : s.size ≤ 1000000) (h : oneTok (s.data.toList.drop k) = none) :
  Calls Tryz.prog 58 #[.string s, .int .i64 k, .map (some b)] w fun e w' => zC 3 k e w' ∧ Below w.heap.size w w' := by
 have hex : (s.extract k s.size).data.toList = s.data.toList.drop k := Lib.extract_to_end s k
 have hrs : (s.extract k s.size).size ≤ 1000000 := by
  have e : (s.extract k s.size).size = (s.extract k s.size).data.toList.length := by simp
  have e2 : s.data.toList.length = s.size := by simp
  rw [e, hex, List.length_drop]; omega
 have H1 : Hid (∀ W, Calls Tryz.prog 90 #[.string (s.extract k s.size), .string setD] W fun e w' => e = .returned (str (zL (s.data.toList.drop k) digs)) ∧ Below W.heap.size W w') := fun W => by
  rw [← hex]; exact run_any (s.extract k s.size) setD W (by decide) hrs (by decide)
 have H2 : Hid (∀ W, Calls Tryz.prog 90 #[.string (s.extract k s.size), .string setW] W fun e w' => e = .returned (str (zL (s.data.toList.drop k) (lets ++ digs))) ∧ Below W.heap.size W w') := fun W => by
  rw [← hex]; exact run_any (s.extract k s.size) setW W (by decide) hrs (by decide)
 unfold oneTok at h
 by_cases hd : zL (s.data.toList.drop k) digs = []
 ·rw [if_neg (by simpa using hd)] at h
  by_cases hv : zL (s.data.toList.drop k) (lets ++ digs) = []
  ·rw [if_neg (by simpa using hv)] at h
   have hf : marksL.find? (·.isPrefixOf (s.data.toList.drop k)) = none := by simpa using h
   have e0 : str (zL (s.data.toList.drop k) digs) = .string ⟨#[]⟩ := by rw [hd]
   have e1 : str (zL (s.data.toList.drop k) (lets ++ digs)) = .string ⟨#[]⟩ := by rw [hv]
   rw [e0] at H1
   rw [e1] at H2
   refine (tokenAt_mark s k b w he hk 24 (by omega) H1 H2 (fun j hj => by rw [hex]; exact find_no _ _ hf j hj) (fun h => by omega)).mono ?_
   rintro e w' ⟨a, b⟩
   unfold MkPost at a
   rw [if_neg (by omega)] at a
   exact ⟨a, b⟩
  ·rw [if_pos hv] at h; cases h
 ·rw [if_pos hd] at h; cases h
theorem info_parts {t : TypeId} {z : Value} {a b : Nat} (h : (Tryz.prog.info? t).map (fun i => (i.zero, i.size, i.bytes)) = some (some z, a, b)) : ∃ i, Tryz.prog.info? t = some i ∧ i.zero = some z ∧ i.size = a ∧ i.bytes = b := by
 obtain ⟨i, hi, he⟩ := Option.map_eq_some_iff.1 h
 injection he with h1 h2
 injection h2 with h2 h3
 exact ⟨i, hi, h1, h2, h3⟩
theorem info75 : (Tryz.prog.info? 136).map (fun i => (i.zero, i.size, i.bytes)) = some (some (.agg #[.int .i64 0, .string ⟨#[]⟩, .int .i64 0]), 3, 32) := by kernel_rfl
def tkc (l : List Tok) : List Value := l.flatMap fun t => [.int .i64 (t.k : Int), str t.t, .int .i64 (t.p : Int)]
theorem tkc_snoc (l : List Tok) (t : Tok) : tkc (l ++ [t]) = tkc l ++ [.int .i64 (t.k : Int), str t.t, .int .i64 (t.p : Int)] := by simp [tkc]
theorem zd {W : World} {B e z n : Nat} {v : Value} {l : List Value} (h : W.ownsRow B e z v n l) : ∃ q c, v = .slice q n c := by
 rcases h.2 with ⟨rfl, rfl⟩ | ⟨g, cap, cur, rfl, _⟩
 ·exact ⟨_, _, rfl⟩
 ·exact ⟨_, _, rfl⟩
theorem qS {w w' : World} (hb : Below w.heap.size w w') : w.grownBy w' none := ⟨hb.os, hb.tape, hb.output, hb.size, fun j hj _ => hb.block j hj⟩
theorem skip_at (s : By) (j : Nat) (hj : j ≤ s.length) : s.drop (qm s j) = zN false (s.drop j) ∧ qm s j ≤ s.length ∧ j ≤ qm s j := by
 have h1 := skip_drop false (s.drop j)
 have h2 := qD false (s.drop j)
 rw [List.length_drop] at h1 h2
 unfold qm
 refine ⟨?_, by omega, by omega⟩
 have h3 : s.drop (s.length - (zN false (s.drop j)).length) = (s.drop j).drop (s.length - j - (zN false (s.drop j)).length) := by
  rw [List.drop_drop]; congr 1; omega
 exact h3.trans h1.symm
structure CI (w : World) (s : By) (j n : Nat) (l : List Tok) (v : Value) (W : World) : Prop where
 cut : ∃ f, (s.drop j).length + 1 ≤ f ∧ cutV s.length f (s.drop j) l = tokV s
 len : n = l.length
 max : l.length ≤ 1500
 row : W.ownsRow (w.heap.size + 1) 136 3 v n (tkc l)
 map : MpAt W w.heap.size 12 wdP
 low : Below w.heap.size w W
theorem CI.kept {w W W' : World} {s : By} {j n : Nat} {l : List Tok} {v : Value} (h : CI w s j n l v W) (hb : Below W.heap.size W W') : CI w s j n l v W' :=
 ⟨h.cut, h.len, h.max, h.row.kept (qS hb) (by cases v.ownBlock <;> simp), h.map.below hb, h.low.trans (hb.mono h.low.size)⟩
theorem CI.lt {w W : World} {s : By} {j n : Nat} {l : List Tok} {v : Value} (h : CI w s j n l v W) : w.heap.size < W.heap.size := World.ownsMap.lt h.map
def CutPost (w : World) (x : Except (Int × Nat) (List Tok)) (e : Ending) (w' : World) : Prop :=
 match x with
 | .ok l => ∃ v, e = .returned v ∧ w'.ownsRow (w.heap.size + 1) 136 3 v l.length (tkc l)
 | .error (c, p) => zC c p e w'
theorem cut_any (s : ByteArray) (w : World) (he : Env w) (hs : s.size ≤ 1000000) :
  Calls Tryz.prog 32 #[.string s] w fun e w' => CutPost w (tokV s.data.toList) e w' ∧ Below w.heap.size w w' := by
 obtain ⟨i0, hi0, hz0, hs0, hb0⟩ := info_parts info75
 have hsl : s.data.toList.length = s.size := by simp
 have HE : Hid (∀ w', Below w.heap.size w w' → Env w') := fun w' hb => he.below hb
 have HW : Hid (Calls Tryz.prog 56 #[] w fun e w' => e = .returned (.map (some w.heap.size)) ∧ MpAt w' w.heap.size 12 wdP ∧ Below w.heap.size w w') := words_any w
 have HSk : Hid (∀ (k : Nat) W, k ≤ s.size → Below w.heap.size w W → Calls Tryz.prog 57 #[.string s, .int .i64 (k : Int)] W fun e w' => e = .returned (.int .i64 (qm s.data.toList k : Nat)) ∧ Below W.heap.size W w') := fun k W hk hb => skip_any s k W (HE.out W hb) hk hs
 have HSl : Hid (s.data.toList.length = s.size) := hsl
 clear he hsl
 go_enter Tryz.func32, Tryz.ntmps32
 go_wp2_with (go_at_call 56; fail)
 refine HW.out.mono ?_
 rintro e w1 ⟨rfl, hm1, hb1⟩
 have HM1 : Hid (MpAt w1 w.heap.size 12 wdP) := hm1
 have HB1 : Hid (Below w.heap.size w w1) := hb1
 clear hm1 hb1
 go_wp2_with (go_at_call 57; fail)
 refine (HSk.out 0 w1 (Nat.zero_le _) HB1.out).mono ?_
 rintro e w2 ⟨rfl, hb2⟩
 have HI0 : Hid (CI w s.data.toList (qm s.data.toList 0) 0 [] (.slice none 0 0) w2) := by
  obtain ⟨s1, s2, s3⟩ := skip_at s.data.toList 0 (Nat.zero_le _)
  refine ⟨⟨s.data.toList.length + 1, ?_, ?_⟩, rfl, by simp, World.ownsRow_nil _ _ _ _, HM1.out.below hb2, HB1.out.trans (hb2.mono HB1.out.size)⟩
  ·rw [List.length_drop]; omega
  ·rw [s1]; rfl
 have hj0 : qm s.data.toList 0 ≤ s.size := by rw [← HSl.out]; exact (skip_at s.data.toList 0 (Nat.zero_le _)).2.1
 generalize qm s.data.toList 0 = j0 at *
 clear hb2
 go_wp2_with fail
 go_loopw [3, 5] (fun v3 i wr => ∃ (j n : Nat) (l : List Tok) (q : Option Addr) (c : Nat), j ≤ s.size ∧ i = .int .i64 j ∧ v3 = .slice q n c ∧ Hid (CI w s.data.toList j n l (.slice q n c) wr)) (fun _ i _ => s.size - (intOf i).toNat)
 case atStart => exact ⟨j0, 0, [], none, 0, hj0, rfl, rfl, HI0.out⟩
 case round =>
  obtain ⟨j, n, l, q, c, hj, rfl, rfl, HC⟩ := hrel
  have hn15 : n ≤ 1500 := by rw [HC.out.len]; exact HC.out.max
  by_cases hlt : j < s.size
  ·have hdl : (s.data.toList.drop j).length = s.size - j := by rw [List.length_drop, HSl.out]
   have hne : ¬ s.data.toList.drop j = [] := fun e => by rw [e] at hdl; simp at hdl; omega
   cases ho : oneTok (s.data.toList.drop j) with
   | none =>
    have HTok : Hid (Calls Tryz.prog 58 #[.string s, .int .i64 (j : Int), .map (some w.heap.size)] wr fun e w' => zC 3 j e w' ∧ Below wr.heap.size wr w') := tokenAt_no s j w.heap.size wr (HE.out wr HC.out.low) (by omega) hs ho
    have HV : Hid (tokV s.data.toList = .error (3, j)) := by
     show _ = _
     obtain ⟨f, hf1, hf2⟩ := HC.out.cut
     obtain ⟨f', rfl⟩ : ∃ f', f = f' + 1 := ⟨f - 1, by omega⟩
     rw [← hf2, cutV, if_neg hne, ho, hdl, HSl.out]
     show Except.error (3, s.size - (s.size - j)) = _
     rw [show s.size - (s.size - j) = j by omega]
    clear ho hne hdl
    go_wp2_with (go_at_call 58; fail)
    refine HTok.out.mono ?_
    rintro e w3 ⟨⟨a, rfl, ha⟩, hb3⟩
    refine ⟨rfl, ?_, HC.out.low.trans (hb3.mono HC.out.low.size)⟩
    rw [HV.out]
    exact ⟨a, rfl, ha⟩
   | some kt =>
    obtain ⟨kd, t⟩ := kt
    obtain ⟨tx, htx⟩ : ∃ tx : ByteArray, tx = ⟨t.toArray⟩ := ⟨_, rfl⟩
    have htx' : str t = .string tx := by rw [htx]
    have htz : tx.size = t.length := by rw [htx]; simp [ByteArray.size]
    obtain ⟨tp1, tp2⟩ := one_pos ho
    have HTok : Hid (Calls Tryz.prog 58 #[.string s, .int .i64 (j : Int), .map (some w.heap.size)] wr fun e w' => e = .returned (.agg #[.int .i64 (kd : Int), .string tx, .int .i64 (j : Int)]) ∧ Below wr.heap.size wr w') := by
     have := tokenAt_yes s j w.heap.size wr (HE.out wr HC.out.low) HC.out.map (by omega) hs kd t ho
     rw [htx'] at this
     exact this
    have HStp : Hid (∀ f, cutV s.data.toList.length (f + 1) (s.data.toList.drop j) l = if l.length = 1500 then .error (4, j) else cutV s.data.toList.length f (s.data.toList.drop (qm s.data.toList (j + tx.size))) (l ++ [⟨kd, t, j⟩])) := fun f => by
     have e1 : s.data.toList.length - (s.data.toList.drop j).length = j := by rw [hdl, HSl.out]; omega
     rw [cutV, if_neg hne, ho]
     simp only
     rw [e1, (skip_at s.data.toList (j + tx.size) (by rw [HSl.out, htz]; omega)).1, List.drop_drop, htz]
    have hjt : j + tx.size ≤ s.size := by rw [htz]; omega
    have htp : 1 ≤ tx.size := by rw [htz]; omega
    have HTx : Hid (str t = .string tx) := htx'
    clear ho hne hdl htx htx' htz tp1 tp2
    by_cases h15 : n = 1500
    ·have HV : Hid (tokV s.data.toList = .error (4, j)) := by
      show _ = _
      obtain ⟨f, hf1, hf2⟩ := HC.out.cut
      obtain ⟨f', rfl⟩ : ∃ f', f = f' + 1 := ⟨f - 1, by omega⟩
      rw [← hf2, HStp.out, if_pos (by rw [← HC.out.len]; exact h15)]
     subst h15
     go_wp2_with (go_at_call 58; fail)
     refine HTok.out.mono ?_
     rintro e w3 ⟨rfl, hb3⟩
     have HB3 : Hid (Below wr.heap.size wr w3) := hb3
     clear hb3
     go_wp2
     have hcl := HC.out.lt
     have hz3 : w.heap.size ≤ w3.heap.size := by have := HB3.out.size; omega
     have hlow : Below w.heap.size w w3 := HC.out.low.trans (HB3.out.mono HC.out.low.size)
     refine ⟨rfl, ?_, (hlow.alloc hz3 _).alloc (by simp; omega) _⟩
     rw [HV.out]
     refine ⟨_, rfl, ?_⟩
     have := heap_alloc_last (w3.alloc (.cells #[.int .i64 (kd : Int), .string tx, .int .i64 (j : Int)] 136)) (.cells #[.int .i64 4, .int .i64 (j : Int)] 139)
     simpa using this
    ·have hn2 : ((n : Int) == 1500) = false := by simp; omega
     go_wp2_with (go_at_call 58; fail)
     refine HTok.out.mono ?_
     rintro e w3 ⟨rfl, hb3⟩
     have hC3 := HC.out.kept hb3
     have hcl := hC3.lt
     have HC3 : Hid (CI w s.data.toList j n l (.slice q n c) w3) := hC3
     have HW3 : Hid (((w3.alloc (.cells #[.int .i64 (kd : Int), .string tx, .int .i64 (j : Int)] 136)).alloc (.cells #[.int .i64 (kd : Int), .string tx, .int .i64 (j : Int)] 136)).ownsRow (w.heap.size + 1) 136 3 (.slice q n c) n (tkc l)) := (hC3.row.alloc _).alloc _
     have HN3 : Hid (∀ (i : Nat) (x : Value), ([.int .i64 (kd : Int), .string tx, .int .i64 (j : Int)] : List Value)[i]? = some x → ((w3.alloc (.cells #[.int .i64 (kd : Int), .string tx, .int .i64 (j : Int)] 136)).alloc (.cells #[.int .i64 (kd : Int), .string tx, .int .i64 (j : Int)] 136)).cell? ((⟨w3.heap.size + 1, 0, none⟩ : Addr).add i) = some x) := World.news_of_block (cs := #[.int .i64 (kd : Int), .string tx, .int .i64 (j : Int)]) (t := 136) (fr := (0, 0)) (by
      have := heap_alloc_last (w3.alloc (.cells #[.int .i64 (kd : Int), .string tx, .int .i64 (j : Int)] 136)) (.cells #[.int .i64 (kd : Int), .string tx, .int .i64 (j : Int)] 136)
      simpa using this)
     have H13 : Hid (∀ u ∈ ([.int .i64 (kd : Int), .string tx, .int .i64 (j : Int)] : List Value), u.oneCell' = true) := fun u hu => by simp at hu; rcases hu with rfl | rfl | rfl <;> rfl
     have HZ3 : Hid (w.heap.size + 1 ≤ ((w3.alloc (.cells #[.int .i64 (kd : Int), .string tx, .int .i64 (j : Int)] 136)).alloc (.cells #[.int .i64 (kd : Int), .string tx, .int .i64 (j : Int)] 136)).heap.size) := by show _ ≤ _; simp; omega
     clear hb3 hC3
     go_wp2_with (at_builtin; refine wpList_append_own _ rfl _ _ 75 rfl (w.heap.size + 1) 136 i0 _ 3 32 Tryz.underlying75 hi0 hz0 hs0 hb0 rfl (by decide) _ n _ rfl HW3.out ⟨w3.heap.size + 1, 0, none⟩ 1 1 [.int .i64 (kd : Int), .string tx, .int .i64 (j : Int)] rfl rfl HN3.out H13.out (by unfold maxLen; omega) (by omega) HZ3.out ?_)
     intro v4 w4 hown4 hgrow4 _
     obtain ⟨q4, c4, rfl⟩ := zd hown4
     have hgne : ∀ i, Value.ownBlock (.slice q n c) = some i → i < w3.heap.size := fun i e => (HC3.out.row.lt i e).2
     have hX4 : w4.heap[w3.heap.size]? = some (.cells #[.int .i64 (kd : Int), .string tx, .int .i64 (j : Int)] 136) := by
      rw [hgrow4.block w3.heap.size (by simp; omega) (fun e => by have := hgne _ e.symm; omega)]
      exact qJ (heap_alloc_last w3 _) _
     obtain ⟨_, y0, y1, y2, _, _, _⟩ := tkAt hX4
     have hB4 : Below w.heap.size w w4 := ((HC3.out.low.alloc (Nat.le_of_lt hcl) _).alloc (by simp; omega) _).grown hgrow4 (by have := HZ3.out; omega) (fun i e => by have := (HW3.out.lt i e).1; omega)
     have hM4 : MpAt w4 w.heap.size 12 wdP := World.ownsMap.kept (World.ownsMap.alloc (World.ownsMap.alloc HC3.out.map _) _) hgrow4 (fun e => by have := (HW3.out.lt _ e.symm).1; omega)
     have HSk4 : Hid (Calls Tryz.prog 57 #[.string s, .int .i64 ((j : Int) + (tx.size : Int))] w4 fun e w' => e = .returned (.int .i64 (qm s.data.toList (j + tx.size) : Nat)) ∧ Below w4.heap.size w4 w') := by
      have := HSk.out (j + tx.size) w4 hjt hB4
      rw [show ((j + tx.size : Nat) : Int) = (j : Int) + (tx.size : Int) by omega] at this
      exact this
     have HB4 : Hid (Below w.heap.size w w4) := hB4
     have HM4 : Hid (MpAt w4 w.heap.size 12 wdP) := hM4
     have HO4 : Hid (w4.ownsRow (w.heap.size + 1) 136 3 (.slice q4 (n + 1) c4) (n + 1) (tkc l ++ [.int .i64 (kd : Int), .string tx, .int .i64 (j : Int)])) := hown4
     clear hgne hX4 hB4 hM4 hown4 hgrow4 HW3 HN3 H13 HZ3
     go_wp2_with (go_at_call 57; fail)
     refine HSk4.out.mono ?_
     rintro e w5 ⟨rfl, hb5⟩
     obtain ⟨k1, k2, k3⟩ := skip_at s.data.toList (j + tx.size) (by rw [HSl.out]; exact hjt)
     have HEnd : Hid (CI w s.data.toList (qm s.data.toList (j + tx.size)) (n + 1) (l ++ [⟨kd, t, j⟩]) (.slice q4 (n + 1) c4) w5) := by
      have hlen := HC3.out.len
      have hl15 : ¬ l.length = 1500 := by rw [← hlen]; exact h15
      have hmax := HC3.out.max
      refine ⟨?_, by simp [hlen], by simp; omega, ?_, HM4.out.below hb5, HB4.out.trans (hb5.mono HB4.out.size)⟩
      ·obtain ⟨f, hf1, hf2⟩ := HC3.out.cut
       obtain ⟨f', rfl⟩ : ∃ f', f = f' + 1 := ⟨f - 1, by omega⟩
       refine ⟨f', ?_, ?_⟩
       ·rw [List.length_drop] at hf1 ⊢
        rw [HSl.out] at *
        omega
       ·rw [← hf2, HStp.out, if_neg hl15]
      ·have := HO4.out.kept (qS hb5) (by cases (Value.slice q4 (n + 1) c4).ownBlock <;> simp)
       rw [tkc_snoc]
       show w5.ownsRow _ _ _ _ _ (tkc l ++ [.int .i64 (kd : Int), str t, .int .i64 (j : Int)])
       rw [HTx.out]
       exact this
     have hjn : qm s.data.toList (j + tx.size) ≤ s.size := by rw [← HSl.out]; exact k2
     have hjn2 : j + tx.size ≤ qm s.data.toList (j + tx.size) := k3
     clear hb5 k1 k2 k3
     generalize qm s.data.toList (j + tx.size) = j' at *
     go_wp2
     exact ⟨⟨j', n + 1, _, q4, c4, hjn, rfl, rfl, HEnd⟩, by simp [intOf]; omega⟩
  ·obtain rfl : j = s.size := by omega
   have HV : Hid (tokV s.data.toList = .ok (l ++ [⟨3, [], s.size⟩])) := by
    show _ = _
    obtain ⟨f, hf1, hf2⟩ := HC.out.cut
    obtain ⟨f', rfl⟩ : ∃ f', f = f' + 1 := ⟨f - 1, by omega⟩
    rw [← hf2, cutV, if_pos (by rw [List.drop_of_length_le (by rw [HSl.out]; exact Nat.le_refl _)]), HSl.out]
   have hcl := HC.out.lt
   have HW3 : Hid ((wr.alloc (.cells #[.int .i64 3, .string ⟨#[]⟩, .int .i64 (s.size : Int)] 136)).ownsRow (w.heap.size + 1) 136 3 (.slice q n c) n (tkc l)) := HC.out.row.alloc _
   have HN3 : Hid (∀ (i : Nat) (x : Value), ([.int .i64 3, .string ⟨#[]⟩, .int .i64 (s.size : Int)] : List Value)[i]? = some x → (wr.alloc (.cells #[.int .i64 3, .string ⟨#[]⟩, .int .i64 (s.size : Int)] 136)).cell? ((⟨wr.heap.size, 0, none⟩ : Addr).add i) = some x) := World.news_of_block (cs := #[.int .i64 3, .string ⟨#[]⟩, .int .i64 (s.size : Int)]) (t := 136) (fr := (0, 0)) (heap_alloc_last wr _)
   have H13 : Hid (∀ u ∈ ([.int .i64 3, .string ⟨#[]⟩, .int .i64 (s.size : Int)] : List Value), u.oneCell' = true) := fun u hu => by simp at hu; rcases hu with rfl | rfl | rfl <;> rfl
   have HZ3 : Hid (w.heap.size + 1 ≤ (wr.alloc (.cells #[.int .i64 3, .string ⟨#[]⟩, .int .i64 (s.size : Int)] 136)).heap.size) := by show _ ≤ _; simp; omega
   go_wp2_with (at_builtin; refine wpList_append_own _ rfl _ _ 75 rfl (w.heap.size + 1) 136 i0 _ 3 32 Tryz.underlying75 hi0 hz0 hs0 hb0 rfl (by decide) _ n _ rfl HW3.out ⟨wr.heap.size, 0, none⟩ 1 1 [.int .i64 3, .string ⟨#[]⟩, .int .i64 (s.size : Int)] rfl rfl HN3.out H13.out (by unfold maxLen; omega) (by omega) HZ3.out ?_)
   intro v4 w4 hown4 hgrow4 _
   have HO4 : Hid (w4.ownsRow (w.heap.size + 1) 136 3 v4 (n + 1) (tkc l ++ [.int .i64 3, .string ⟨#[]⟩, .int .i64 (s.size : Int)])) := hown4
   have HB4 : Hid (Below w.heap.size w w4) := (HC.out.low.alloc (Nat.le_of_lt hcl) _).grown hgrow4 (by have := HZ3.out; omega) (fun i e => by have := (HW3.out.lt i e).1; omega)
   clear hown4 hgrow4
   go_wp2
   go_ret
   refine ⟨?_, HB4.out⟩
   rw [HV.out]
   refine ⟨v4, rfl, ?_⟩
   have := HO4.out
   rw [HC.out.len] at this
   rw [tkc_snoc, List.length_append]
   exact this
end Go.Proofs.YtnfhpdbbfejioaaGreatDoor
