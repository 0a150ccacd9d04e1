/- What Assemble hands back of that text, part by part; append of whatever many instructions. -/
import Derived.Test.YtjjjdplgdlaihaaDoorT0
namespace Go.Proofs.YtjjjdplgdlaihaaDoor
set_option linter.unusedVariables false
open Go Go.RowKit

theorem ys_at (l : List Dr) (a to : Nat) (ys : List Dr) (ha : a ≤ l.length) (hp : ∀ d ∈ l, d.pl = []) (h2 : ys.length = (seqL l a).length)
    (h3 : ∀ j (hj : j < (seqL l a).length) (h' : j < ys.length), ys[j] = if ((seqL l a)[j]).pl ≠ [] then jTo (4 * ((to : Int) - j)) else (seqL l a)[j]) (j : Nat) (d : Dr) (hd : (seqL l a)[j]? = some d) :
    ys[j]? = some (if d.pl ≠ [] then jTo (4 * ((to : Int) - j)) else d) := by
  obtain ⟨hj, rfl⟩ := List.getElem?_eq_some_iff.1 hd
  rw [List.getElem?_eq_getElem (by omega), h3 j hj (by omega)]
theorem ys_parts (l : List Dr) (a to : Nat) (ys : List Dr) (ha : a ≤ l.length) (hp : ∀ d ∈ l, d.pl = []) (h2 : ys.length = (seqL l a).length)
    (h3 : ∀ j (hj : j < (seqL l a).length) (h' : j < ys.length), ys[j] = if ((seqL l a)[j]).pl ≠ [] then jTo (4 * ((to : Int) - j)) else (seqL l a)[j]) :
    ys.take a = l.take a ∧ ys.drop (a + 1) = l.drop a ∧ ys[a]? = some (jTo (4 * ((to : Int) - a))) := by
  have hlen := seq_len l a ha
  refine ⟨List.ext_getElem? fun j => ?_, List.ext_getElem? fun j => ?_, ?_⟩
  · rw [List.getElem?_take, List.getElem?_take]
    split
    · rename_i hj
      have hd : l[j]? = some l[j] := List.getElem?_eq_getElem (by omega)
      rw [ys_at l a to ys ha hp h2 h3 j _ ((seq_lt l a j ha hj).trans hd), if_neg (fun e => e (hp _ (List.getElem_mem _))), hd]
    · rfl
  · rw [List.getElem?_drop, List.getElem?_drop]
    by_cases hj : a + j < l.length
    · have hd : l[a + j]? = some l[a + j] := List.getElem?_eq_getElem hj
      have e : (seqL l a)[a + 1 + j]? = l[a + j]? := by
        rw [seq_gt l a (a + 1 + j) ha (by omega)]
        congr 1
        omega
      rw [ys_at l a to ys ha hp h2 h3 (a + 1 + j) _ (e.trans hd), if_neg (fun e => e (hp _ (List.getElem_mem _))), hd]
    · rw [List.getElem?_eq_none (by omega), List.getElem?_eq_none (by omega)]
  · rw [ys_at l a to ys ha hp h2 h3 a J (seq_eq l a ha), if_pos (by decide)]

/-- append of whatever many, at a step of a region that draws its order. -/
theorem step_append_own {P : Program} (w : World) {ops : Array Oper} {o : Oper} {a : Act} {K : Act → World → Prop} {Q : Exit → Act → World → Prop} {E : Prop} (hgd : o.guard = none) (s x : Operand) (t : TypeId)
    (ho : o.op = .call { callee := .builtin .append, args := #[s, x], argTypes := #[t, t] })
    (base : Nat) (e : TypeId) (i : TypeInfo) (z : Value) (size bytes : Nat) (ht : P.underlying t = some (.slice e)) (hi : P.info? e = some i) (hz : i.zero = some z)
    (hsize : i.size = size) (hby : i.bytes = bytes) (hzs : z.cells.size = size) (hsz : 0 < size)
    (ga n c0 : Nat) (xs : List Value) (hs : a.eval s = .slice (some ⟨ga, 0, none⟩) n c0) (hown : w.ownsRow base e size (.slice (some ⟨ga, 0, none⟩) n c0) n xs)
    (ad : Addr) (m c : Nat) (news : List Value) (hx : a.eval x = .slice (some ad) m c) (hl : news.length = m * size) (hnews : ∀ j u, news[j]? = some u → w.cell? (ad.add j) = some u) (h1 : ∀ u ∈ news, u.oneCell' = true)
    (h63 : n + m ≤ maxLen) (hbytes : (n + m) * bytes ≤ 140737488355328) (hbase : base ≤ w.heap.size) (N : Nat) (hN : n + m = N)
    (h : ∀ g cap w', w'.ownsRow base e size (.slice (some ⟨g, 0, none⟩) N cap) N (xs ++ news) → w.grownBy w' (some ga) → K (a.put o.dst (.slice (some ⟨g, 0, none⟩) N cap)) w') :
    if Region.wanted o (yielded ops a.tmps) = true then Oper.wp P o a w K Q else E := by
  have hw : Region.wanted o (yielded ops a.tmps) = true := by simp [Region.wanted, hgd]
  rw [if_pos hw]
  obtain ⟨v', w', hr, r1, r2, r3⟩ := run_append_own (P := P) w base t o.type e i z size bytes ht hi hz hsize hby hzs hsz _ n xs hown ad m c news hl hnews h1 h63 hbytes hbase
  obtain ⟨g, cap, rfl⟩ : ∃ g cap, v' = .slice (some ⟨g, 0, none⟩) (n + m) cap := by
    rcases r1.2 with ⟨e0, _⟩ | ⟨g, cap, cur, e0, _⟩
    · have := (r3.1 e0).1
      cases this
    · exact ⟨g, cap, e0⟩
  unfold Oper.wp execOp
  simp only [ho, resolve, invoke, builtin, Sem.run_bind, Sem.run_pure, Result.andThen_ok, List.map_toArray, List.map_cons, List.map_nil, hs, hx, hr]
  subst hN
  exact h g cap w' r1 r2
theorem ins_one (l : List Dr) : ∀ u ∈ ins l, u.oneCell' = true := fun u hu => by
  simp only [ins, List.mem_flatMap] at hu
  obtain ⟨d, _, hd⟩ := hu
  simp at hd
  rcases hd with rfl | rfl | rfl | rfl | rfl <;> rfl
theorem ins_append (l m : List Dr) : ins (l ++ m) = ins l ++ ins m := by simp [ins]
theorem ins_drop (l : List Dr) (k : Nat) : ins (l.drop k) = (ins l).drop (k * 5) := by
  by_cases hk : k ≤ l.length
  · have e : ins l = ins (l.take k) ++ ins (l.drop k) := by rw [← ins_append, List.take_append_drop]
    have h5 : (ins (l.take k)).length = k * 5 := by rw [ins_len, List.length_take, Nat.min_eq_left hk]
    rw [e, ← h5, List.drop_left]
  · rw [List.drop_of_length_le (by omega), List.drop_of_length_le (by rw [ins_len]; omega)]
    rfl
theorem ins_takes (l : List Dr) (k : Nat) : ins (l.take k) = (ins l).take (k * 5) := by
  by_cases hk : k ≤ l.length
  · have e : ins l = ins (l.take k) ++ ins (l.drop k) := by rw [← ins_append, List.take_append_drop]
    have h5 : (ins (l.take k)).length = k * 5 := by rw [ins_len, List.length_take, Nat.min_eq_left hk]
    rw [e, ← h5, List.take_left]
  · rw [List.take_of_length_le (by omega), List.take_of_length_le (by rw [ins_len]; omega)]
end Go.Proofs.YtjjjdplgdlaihaaDoor
