/- The document's ReadInst, walked, of a line with a blank. -/
import Derived.Test.YtjjjdplgdlaihaaGreatDoorMQ
import Derived.Test.YtjjjdplgdlaihaaGreatDoorMK
import Derived.Test.YtjjjdplgdlaihaaGreatDoorMF
import Derived.BigRegion
namespace Go.Proofs.YtjjjdplgdlaihaaGreatDoor
set_option linter.unusedVariables false
set_option linter.unusedSimpArgs false
open Go Go.RowKit

theorem below_drewN {B : Nat} {w w' : World} (h : Below B w w') : ∀ n, Below B w (w'.drewN n) := fun n => ⟨h.os, h.tape, h.output, h.size, h.block⟩
theorem cut_at (c : UInt8) (l : By) (k : Nat) (h : Lib.indexByte l c = k) : cutC c l = (l.take k, l.drop (k + 1), true) := by
  have := cut_is l c
  unfold Lib.cut at this
  rw [Lib.index_one, h, if_pos (by omega)] at this
  rw [← this]
  simp
theorem ix_lt (c : UInt8) : ∀ (l : By) (k : Nat), Lib.indexByte l c = k → k < l.length
  | [], k, h => by rw [Lib.indexByte] at h; omega
  | b :: l, k, h => by
    rw [Lib.indexByte] at h
    split at h
    · simp; omega
    · split at h
      · omega
      · rename_i h1 h2
        rcases ixB_cases l c with h3 | h3
        · simp [h3] at h2
        · have := ix_lt c l (k - 1) (by omega)
          simp
          omega
theorem ix_at (c : UInt8) : ∀ (l : By) (k : Nat), Lib.indexByte l c = k → l.drop k = c :: l.drop (k + 1)
  | [], k, h => by rw [Lib.indexByte] at h; omega
  | b :: l, k, h => by
    rw [Lib.indexByte] at h
    split at h
    · rename_i hb
      have : k = 0 := by omega
      subst this
      simp at hb
      subst hb
      rfl
    · split at h
      · omega
      · rename_i h1 h2
        rcases ixB_cases l c with h3 | h3
        · simp [h3] at h2
        · obtain ⟨j, rfl⟩ : ∃ j, k = j + 1 := ⟨k - 1, by omega⟩
          exact ix_at c l j (by omega)
theorem dw_nil (p : UInt8 → Bool) : ∀ l : By, l.dropWhile p = [] → ∀ x ∈ l, p x = true
  | [], _, x, h => by simp at h
  | a :: l, h, x, hx => by
    rw [List.dropWhile_cons] at h
    split at h
    · rename_i ha
      rcases List.mem_cons.1 hx with rfl | hx
      · exact ha
      · exact dw_nil p l h x hx
    · cases h
/-- What stands behind the blank, of a line that ends with none. -/
theorem rest_is (l : By) (k : Nat) (h : Lib.indexByte l 32 = k) (hl : l.getLast? ≠ some 32) : trimV (l.drop k) = trimL (cutC 32 l).2.1 ∧ trimL (cutC 32 l).2.1 ≠ [] := by
  rw [cut_at 32 l k h, ix_at 32 l k h]
  have hk := ix_lt 32 l k h
  have hlast : (l.drop (k + 1)).getLast? ≠ some 32 ∧ l.drop (k + 1) ≠ [] := by
    have e : l = l.take (k + 1) ++ l.drop (k + 1) := (List.take_append_drop _ _).symm
    have hne : l.drop (k + 1) ≠ [] := fun e0 => by
      have h1 := ix_at 32 l k h
      rw [e0] at h1
      have e2 : l = l.take k ++ [32] := by rw [← h1]; exact (List.take_append_drop _ _).symm
      apply hl
      rw [e2]
      simp
    refine ⟨fun e0 => hl ?_, hne⟩
    rw [e, List.getLast?_append, e0]
    rfl
  generalize l.drop (k + 1) = t at *
  obtain ⟨h1, h2⟩ := hlast
  have hr : ((32 :: t : By).reverse.dropWhile (· == 32)).reverse = 32 :: t := by
    obtain ⟨u, x, rfl⟩ : ∃ u x, t = u ++ [x] := ⟨t.dropLast, t.getLast h2, (List.dropLast_concat_getLast h2).symm⟩
    have hx : x ≠ 32 := fun e => h1 (by rw [e]; simp)
    simp [hx]
  refine ⟨?_, fun e0 => ?_⟩
  · unfold trimV trimL
    rw [hr]
    rfl
  · unfold trimL at e0
    obtain ⟨u, x, rfl⟩ : ∃ u x, t = u ++ [x] := ⟨t.dropLast, t.getLast h2, (List.dropLast_concat_getLast h2).symm⟩
    have hx : x ≠ 32 := fun e => h1 (by rw [e]; simp)
    have := dw_nil _ _ e0 x (by simp)
    simp at this
    exact hx this

theorem mem_none {F : Option Dr} {p q r : By} {z : Bool} (hc : cutC 40 p = (q, r, z)) (hv : r.getLast? ≠ some 41 ∨ numV q = none) : F.bind (takeV 40 p) = none := by
  cases F with
  | none => rfl
  | some D =>
    show takeV 40 p D = none
    rw [take_m_eq, hc]
    dsimp only
    by_cases hr : r.getLast? = some 41
    · rcases hv with hv | hv
      · exact absurd hr hv
      · exact memV_none hr hv
    · exact memV_no hr
theorem idx_last (pp : ByteArray) (h : 0 < pp.size) : ∃ c : UInt8, pp.data.toList.getLast? = some c ∧ ∀ W : World, (Instr.index 9 (.string pp) (.int .i64 ((pp.size : Int) - 1))).run Tryz.prog W = .ok (.int .u8 (c.toNat : Int)) W := by
  refine ⟨pp[pp.size - 1], ?_, fun W => ?_⟩
  · rw [List.getLast?_eq_getElem?]
    have e : pp.data.toList.length = pp.size := by simp
    rw [e, List.getElem?_eq_getElem (by omega)]
    rfl
  · rw [run_index_string W 9 pp .i64 _ Tryz.underlying9, dif_pos ⟨by omega, by omega⟩]
    have e : ((pp.size : Int) - 1).toNat = pp.size - 1 := by omega
    simp only [e]
theorem wrap_ok (x : Int) (h0 : -9223372036854775808 ≤ x) (h1 : x ≤ 9223372036854775807) : IntKind.i64.wrap x = x := IntWalk.i64_in x ⟨h0, h1⟩
theorem below_drew {B : Nat} {w w' : World} (h : Below B w w') : Below B w w'.drew := ⟨h.os, h.tape, h.output, h.size, h.block⟩
theorem ext_mid (s : ByteArray) (a m : Nat) (h : m = s.size - 1) (ha : a ≤ m) : (s.extract a m).data.toList = (s.data.toList.drop a).dropLast := by
  have e : s.data.toList.length = s.size := by simp
  rw [List.dropLast_eq_take, List.length_drop, e]
  simp only [ByteArray.data_extract, Array.toList_extract, List.extract_eq_take_drop]
  rw [h, show s.size - 1 - a = s.size - a - 1 by omega]
theorem cut_miss (c : UInt8) (l : By) (h : Lib.indexByte l c = -1) : cutC c l = (l, [], false) := by
  have := cut_is l c
  unfold Lib.cut at this
  rw [Lib.index_one, h, if_neg (by omega)] at this
  exact this.symm

/-- The loops of a function's code. -/
def loopsOf : Code → List Code
  | .loop c => [c]
  | .seq a b => loopsOf a ++ loopsOf b
  | .block _ c => loopsOf c
  | .scope c => loopsOf c
  | .cond _ a b => loopsOf a ++ loopsOf b
  | _ => []
def loopAt (f : Func) (i : Nat) : Code := ((f.body.map loopsOf).getD []).getD i .skip
set_option maxRecDepth 1000000 in
/-- What is known at the head of a round of ReadInst's second loop. -/
def WR (s : ByteArray) (w wo w2 : World) (kk o : Nat) (rs nm fm : ByteArray) (pl : List ByteArray) (ks : By) (u9 u10 u35 u36 u37 u38 u39 u40 u41 u42 u43 u44 u45 u46 u47 u48 u49 u50 : Value) (a' : Act) (w' : World) : Prop :=
  ∃ u3 u4 u13 u14 u15 u16 u17 u71 u72 u73 u74 u75 u76 u77 u78 u79 u80 u81 u82 u83 u84 u85 u86 u87 u88 u89 u90 u91 u92 u93 u94 u95 u96 u97 u98 u99 u100 u101 u102 u103 u104 u105 u106 u107 u108 u109 u110 u111 u112 u113 u114 u115 u116 u117 u118 u119 u120 u121 u122 u123 u124 u125 u126 u127 u128 u129 u130 u131 u132 u133 u134 u135 u136 u137 u138 u139 u140 u141 u142 u143 u144 u145 u146 u147 u148 u149 u150 u151 u152 u153 u154 u155 u156 u157 u158 u159 u160 u161 u162 u163 u164 u165 u166 u167 u168 u169 u170 u171 u172 u173 u174 u175 u176 u177 u178 u179 u180 u181 u182 u183 u184 u185 u186 u187 u188 u189 u190 u191 u192 u193 u194 u195 : Value, (∃ (k : Nat) (d a b n : Int) (tb : ByteArray) (ob : Bool), k ≤ fm.size ∧ u3 = .string tb ∧ u4 = .bool ob ∧ Hid (StR (foldT (ks.take k) ((pl.map (·.data.toList)).take k) ⟨o, 0, 0, 0, 0, []⟩) o d a b n tb.data.toList ob) ∧ Hid (w'.heap[w2.heap.size]? = some (.stringIter fm k)) ∧ Hid (w'.heap[w.heap.size]? = some (.cells #[.int .i64 (o : Int), .int .i64 d, .int .i64 a, .int .i64 b, .int .i64 n] 39)) ∧ Hid (w'.heap[wo.heap.size]? = some (.cells (pl.map Value.string).toArray 9)) ∧ Hid (Below w.heap.size w w')) ∧ a' = { tmps := #[Value.string s, undef, Value.pointer (some ⟨w.heap.size, 0, none⟩), u3, u4, Value.string nm, Value.string rs, Value.int .i64 (kk : Int), Value.int .i64 40, u9, u10, Value.slice (some ⟨wo.heap.size, 0, none⟩) fm.size fm.size, Value.string fm, u13, u14, u15, u16, u17, Value.string s, Value.string s, Value.int .i64 (kk : Int), Value.int .i64 (kk : Int), Value.bool true, Value.string s, Value.int .i64 (kk : Int), Value.string nm, Value.string s, Value.int .i64 (kk : Int), Value.string (s.extract kk s.size), Value.string rs, Value.string rs, Value.bool false, undef, Value.int .i64 40, Value.bool false, u35, u36, u37, u38, u39, u40, u41, u42, u43, u44, u45, u46, u47, u48, u49, u50, Value.string rs, Value.bool true, Value.string rs, Value.slice (some ⟨wo.heap.size, 0, none⟩) fm.size fm.size, Value.pointer (some ⟨w.heap.size, 0, none⟩), Value.int .i64 (o : Int), Value.string fm, Value.pointer (some ⟨w.heap.size, 0, none⟩), Value.int .i64 (o : Int), Value.bool false, Value.bool false, Value.slice (some ⟨wo.heap.size, 0, none⟩) fm.size fm.size, Value.int .i64 (fm.size : Int), Value.string fm, Value.int .i64 (fm.size : Int), Value.bool false, Value.bool false, undef, Value.string fm, Value.pointer (some ⟨w2.heap.size, 0, none⟩), u71, u72, u73, u74, u75, u76, u77, u78, u79, u80, u81, u82, u83, u84, u85, u86, u87, u88, u89, u90, u91, u92, u93, u94, u95, u96, u97, u98, u99, u100, u101, u102, u103, u104, u105, u106, u107, u108, u109, u110, u111, u112, u113, u114, u115, u116, u117, u118, u119, u120, u121, u122, u123, u124, u125, u126, u127, u128, u129, u130, u131, u132, u133, u134, u135, u136, u137, u138, u139, u140, u141, u142, u143, u144, u145, u146, u147, u148, u149, u150, u151, u152, u153, u154, u155, u156, u157, u158, u159, u160, u161, u162, u163, u164, u165, u166, u167, u168, u169, u170, u171, u172, u173, u174, u175, u176, u177, u178, u179, u180, u181, u182, u183, u184, u185, u186, u187, u188, u189, u190, u191, u192, u193, u194, u195, undef, undef, undef], defers := [] }
end Go.Proofs.YtjjjdplgdlaihaaGreatDoor
