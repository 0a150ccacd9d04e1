/- The document's rightStep, plain: what it asks of each step is what is right. -/
import Derived.Test.YtjmbjpimabnohaaDoorSB
import Derived.Test.YtjmbjpimabnohaaDoorShelf
import Derived.Lib.IndexAny
namespace Go.Proofs.YtjmbjpimabnohaaDoor.Mid
set_option linter.unusedVariables false
set_option linter.unusedSimpArgs false
open Go Go.RowKit

abbrev tabB : By := [32, 43, 32, 45, 32, 42, 32, 47, 32, 37, 32, 61, 61, 32, 33, 61, 32, 60, 32, 60, 61, 32, 62, 32, 62, 61, 32]
theorem pre_tok {x rest : By} (h : 32 ∉ x) (hp : x ++ [32] <+: rest) : x = rest.takeWhile (fun c => c != 32) := by
  obtain ⟨t, rfl⟩ := hp
  rw [List.append_assoc, List.takeWhile_append_of_pos (by
    intro c hc
    rw [bne_iff_ne]
    intro e
    subst e
    exact h hc)]
  simp
theorem tab_tok : ∀ i : Fin 28, (tabB.drop i.val).head? = some 32 → (tabB.drop (i.val + 1)).takeWhile (fun c => c != 32) ∈ marksL ∨ (tabB.drop (i.val + 1)).takeWhile (fun c => c != 32) = [] := by decide
theorem mark_good : ∀ op ∈ marksL, op ≠ [] ∧ 32 ∉ op ∧ Lib.contains tabB ([32] ++ op ++ [32]) = true := by decide
/-- What the document asks of a mark. -/
def opB (op : By) : Bool := decide (op ≠ []) && (!(decide (0 ≤ Lib.indexByte op 32)) && Lib.contains tabB ([32] ++ op ++ [32]))
theorem op_eq (op : By) : opB op = markB op := by
  unfold opB
  have hib : decide (0 ≤ Lib.indexByte op 32) = op.contains 32 := (Lib.contains_iff_indexByte op 32).symm
  rw [hib]
  cases hm : markB op with
  | true =>
    unfold markB at hm
    rw [List.contains_iff_mem] at hm
    obtain ⟨h1, h2, h3⟩ := mark_good op hm
    have h2' : op.contains 32 = false := by
      rw [Bool.eq_false_iff]
      intro e
      rw [List.contains_iff_mem] at e
      exact h2 e
    rw [decide_eq_true h1, h2', h3]
    rfl
  | false =>
    rw [Bool.eq_false_iff]
    intro e
    simp only [Bool.and_eq_true, decide_eq_true_eq, Bool.not_eq_true'] at e
    obtain ⟨h1, h2, h3⟩ := e
    have h2' : 32 ∉ op := fun hc => by
      rw [← List.contains_iff_mem] at hc
      rw [hc] at h2
      cases h2
    have h3' : 0 ≤ Lib.index tabB ([32] ++ op ++ [32]) := by
      unfold Lib.contains at h3
      exact of_decide_eq_true h3
    rcases Lib.index_spec tabB ([32] ++ op ++ [32]) with ⟨a, _⟩ | ⟨i, a1, a2⟩
    · omega
    · have a3 : Lib.occAt tabB ([32] ++ op ++ [32]) i = true := a2.2.1
      unfold Lib.occAt at a3
      rw [List.isPrefixOf_iff_prefix] at a3
      have hi : i < 28 := by
        rcases Nat.lt_or_ge i 28 with h | h
        · exact h
        · rw [List.drop_of_length_le (by simpa using (by omega : 27 ≤ i))] at a3
          have := a3.length_le
          simp at this
      have hd : (tabB.drop i).head? = some 32 := by
        obtain ⟨t, ht⟩ := a3
        rw [← ht]
        rfl
      have hp : op ++ [32] <+: tabB.drop (i + 1) := by
        obtain ⟨t, ht⟩ := a3
        refine ⟨t, ?_⟩
        have : (tabB.drop i).tail = tabB.drop (i + 1) := by simp [List.tail_drop]
        rw [← this, ← ht]
        rfl
      have ho := pre_tok h2' hp
      rcases tab_tok ⟨i, hi⟩ hd with h | h
      · have hmm : markB op = true := by
          unfold markB
          rw [List.contains_iff_mem, ho]
          exact h
        rw [hm] at hmm
        cases hmm
      · exact h1 (by rw [ho]; exact h)
theorem has0 {F : Mf} {x : Int} : hasB F x 0 = true := rfl
theorem has1 {F : Mf} {x : Int} : hasB F x 1 = isB F x 1 := by unfold hasB; simp
theorem has2 {F : Mf} {x : Int} : hasB F x 2 = isB F x 2 := by unfold hasB; simp
theorem ty1 {F : Mf} {a k : Int} : typedB F [a] [k] = isB F a k := by unfold typedB; simp
theorem ty2 {F : Mf} {a b k l : Int} : typedB F [a, b] [k, l] = (isB F a k && isB F b l) := by unfold typedB; simp
theorem ty3 {F : Mf} {a b c k l m : Int} : typedB F [a, b, c] [k, l, m] = (isB F a k && (isB F b l && isB F c m)) := by unfold typedB; simp
section
variable {fs : By → Option Mf} {F : Mf} {s : Ms}
theorem rs_1 (h : s.code = 1) : stepB fs F s = typedB F [s.dst] [1] := by unfold stepB allB besB; rw [h, ty1]; simp [frm, has0, has1]
theorem rs_2 (h : s.code = 2) : stepB fs F s = (typedB F [s.dst, s.a] [1, 1] || typedB F [s.dst, s.a] [2, 2]) := by unfold stepB allB besB; rw [h, ty2, ty2]; simp [frm, has0]
theorem rs_3 (h : s.code = 3) : stepB fs F s = (typedB F [s.dst, s.a, s.b] [1, 1, 1] && opB s.op) := by unfold stepB allB besB; rw [h, ty3, op_eq]; simp [frm, has0, has1, Bool.and_assoc]
theorem rs_4 (h : s.code = 4) : stepB fs F s = (labOf F.steps s.label).isSome := by unfold stepB allB besB; rw [h]; simp [frm, has0]
theorem rs_5 (h : s.code = 5) : stepB fs F s = ((labOf F.steps s.label).isSome && typedB F [s.a] [1]) := by unfold stepB allB besB; rw [h, ty1]; simp [frm, has0, has1, Bool.and_comm]
theorem rs_6 (h : s.code = 6) : stepB fs F s = true := by unfold stepB allB besB; rw [h]; simp [frm, has0]
theorem rs_7 (h : s.code = 7) : stepB fs F s = (typedB F [s.dst] [1] && fitsB F (fs s.name) s.args) := by unfold stepB allB besB; rw [h, ty1]; simp [frm, has0, has1]
theorem rs_8 (h : s.code = 8) : stepB fs F s = typedB F [s.a] [1] := by unfold stepB allB besB; rw [h, ty1]; simp [frm, has0, has1]
theorem rs_9 (h : s.code = 9) : stepB fs F s = typedB F [s.dst, s.a] [2, 1] := by unfold stepB allB besB; rw [h, ty2]; simp [frm, has0, has1, has2]
theorem rs_10 (h : s.code = 10) : stepB fs F s = typedB F [s.dst, s.a] [1, 2] := by unfold stepB allB besB; rw [h, ty2]; simp [frm, has0, has1, has2]
theorem rs_11 (h : s.code = 11) : stepB fs F s = typedB F [s.dst, s.a, s.b] [1, 2, 1] := by unfold stepB allB besB; rw [h, ty3]; simp [frm, has0, has1, has2]
theorem rs_12 (h : s.code = 12) : stepB fs F s = typedB F [s.a, s.b, s.c] [2, 1, 1] := by unfold stepB allB besB; rw [h, ty3]; simp [frm, has0, has1, has2]
theorem rs_13 (h : s.code = 13) : stepB fs F s = typedB F [s.a] [1] := by unfold stepB allB besB; rw [h, ty1]; simp [frm, has0, has1]
theorem rs_14 (h : s.code = 14) : stepB fs F s = typedB F [s.dst] [1] := by unfold stepB allB besB; rw [h, ty1]; simp [frm, has0, has1]
end
/-- How often a label is there. -/
def cntL (l : List Ms) (x : Int) : Nat := l.countP (fun s => s.code == 6 && s.label == x)
theorem cnt_pos {l : List Ms} {x : Int} : decide (0 < (cntL l x : Int)) = (labOf l x).isSome := by
  unfold cntL labOf
  rw [List.findIdx?_isSome]
  by_cases h : l.any (fun s => s.code == 6 && s.label == x) = true
  · rw [h]
    rw [List.any_eq_true] at h
    have := List.countP_pos_iff.2 h
    exact decide_eq_true (by omega)
  · have h' : l.any (fun s => s.code == 6 && s.label == x) = false := by simpa using h
    rw [h']
    have : ¬ 0 < l.countP (fun s => s.code == 6 && s.label == x) := fun hp => h (List.any_eq_true.2 (List.countP_pos_iff.1 hp))
    exact decide_eq_false (by omega)
theorem zip_take {α β : Type} : ∀ (l : List α) (t : List β), l.zip (t.take l.length) = l.zip t
  | [], t => by simp
  | a :: l, [] => by simp
  | a :: l, b :: t => by
    simp only [List.length_cons, List.take_succ_cons, List.zip_cons_cons]
    rw [zip_take l t]
theorem fits_typed {F G : Mf} {l : List Int} (hp : 0 ≤ G.params ∧ G.params ≤ G.types.length) : fitsB F (some G) l = typedB F l (G.types.take G.params.toNat) := by
  have hl : (G.types.take G.params.toNat).length = G.params.toNat := by rw [List.length_take]; omega
  by_cases h : (l.length : Int) = G.params
  · rw [fits_2 h, ty_2 (by rw [hl]; omega)]
    have : G.params.toNat = l.length := by omega
    rw [this, zip_take]
  · rw [fits_1 h, ty_1 (by rw [hl]; omega)]
end Go.Proofs.YtjmbjpimabnohaaDoor.Mid
