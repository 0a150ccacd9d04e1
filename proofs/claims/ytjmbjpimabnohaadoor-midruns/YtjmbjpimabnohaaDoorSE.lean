/- The document's RightCode: what its maps hold. -/
import Derived.Test.YtjmbjpimabnohaaDoorSD
namespace Go.Proofs.YtjmbjpimabnohaaDoor.Mid
set_option linter.unusedVariables false
set_option linter.unusedSimpArgs false
open Go Go.RowKit

/-- Functions in a row. -/
structure RowAt (w : World) (q : Option Addr) (c : Nat) (L : List Mf) : Prop where
  le : L.length ≤ c ∧ L.length ≤ 1000000
  fn : L = [] ∨ ∃ g p, q = some ⟨g, p, none⟩ ∧ ∀ j F, L[j]? = some F → FnAt w g (p + j * 4) F ∧ ∃ qG cG, w.cell? ⟨g, p + j * 4 + 2, none⟩ = some (.slice qG F.types.length cG) ∧ F.types.length ≤ cG
theorem RowAt.below {w w' : World} {q : Option Addr} {c : Nat} {L : List Mf} (h : RowAt w q c L) (hb : Below w.heap.size w w') : RowAt w' q c L := by
  refine ⟨h.le, ?_⟩
  rcases h.fn with h | ⟨g, p, e, h⟩
  · exact .inl h
  · refine .inr ⟨g, p, e, fun j F hF => ?_⟩
    obtain ⟨h1, qG, cG, h2, h3⟩ := h j F hF
    exact ⟨h1.below hb, qG, cG, by rw [hb.cell (p := ⟨g, p + j * 4 + 2, none⟩) (cell_lt h2)]; exact h2, h3⟩
theorem und66 : Tryd.prog.underlying 66 = some (.map 9 3) := Tryd.underlying66
/-- Which function a name is. -/
def idxF (l : List Mf) : Lit → Option Value
  | .string nm => (l.findIdx? (fun F => F.name == nm)).map fun (k : Nat) => .int .i64 (k : Int)
  | _ => none
theorem idx_none {l : List Mf} {nm : By} : l.findIdx? (fun F => F.name == nm) = none ↔ ∀ F ∈ l, F.name ≠ nm := by
  rw [List.findIdx?_eq_none_iff]
  constructor
  · intro h F hF e
    have := h F hF
    simp [e] at this
  · intro h F hF
    have := h F hF
    rw [Bool.eq_false_iff]
    intro e
    exact this (by simpa using e)
theorem idx_snoc {l : List Mf} {F : Mf} {nm : By} : (l ++ [F]).findIdx? (fun F => F.name == nm) = (l.findIdx? (fun F => F.name == nm)).or (if F.name = nm then some l.length else none) := by
  rw [List.findIdx?_append]
  congr 1
  by_cases h : F.name = nm
  · rw [if_pos h]; simp [h]
  · rw [if_neg h]
    have : (F.name == nm) = false := by simpa using h
    simp [this]
def parB (F : Mf) : Bool := inB F.params 0 (F.types.length : Int)
/-- Where the first loop is. -/
structure OfI (L : List Mf) (w wr : World) (i : Nat) : Prop where
  bel : Below w.heap.size w wr
  mp : ∃ n, n ≤ i ∧ Mp 9 wr w.heap.size (idxF (L.take i)) n
  nd : ((L.take i).map (·.name)).Nodup
  pr : (L.take i).all parB = true
theorem nodup_snoc {l : List Mf} {F : Mf} : ((l ++ [F]).map (·.name)).Nodup ↔ (l.map (·.name)).Nodup ∧ ∀ G ∈ l, G.name ≠ F.name := by
  rw [List.map_append, List.nodup_append]
  constructor
  · rintro ⟨h1, _, h3⟩
    exact ⟨h1, fun G hG e => h3 G.name (List.mem_map.2 ⟨G, hG, rfl⟩) F.name (by simp) e⟩
  · rintro ⟨h1, h2⟩
    refine ⟨h1, by simp, fun a ha b hb e => ?_⟩
    obtain ⟨G, hG, rfl⟩ := List.mem_map.1 ha
    simp at hb
    exact h2 G hG (by rw [e, hb])
theorem of_put {L : List Mf} {w wr W9 : World} {i : Nat} {F : Mf} (h : OfI L w wr i) (hs : L[i]? = some F) (hn : ∀ G ∈ L.take i, G.name ≠ F.name) (hp : parB F = true) (hB : Below wr.heap.size wr W9) (hl : F.name.length ≤ 9223372036854775807) (hi : i ≤ 1000000) :
    ∃ w9, (Instr.mapUpdate 66 (.map (some w.heap.size)) (.string ⟨F.name.toArray⟩) (.int .i64 (i : Int))).run Tryd.prog W9 = .ok () w9 ∧ OfI L w w9 (i + 1) := by
  obtain ⟨n, hn1, hm⟩ := h.mp
  have hlt := hm.lt
  have hlen : (L.take i).length = i := by have := (List.getElem?_eq_some_iff.1 hs).1; simp; omega
  have hk : keyOf Tryd.prog 9 (.string ⟨F.name.toArray⟩) = some (.string F.name) := by
    have := key_s ⟨F.name.toArray⟩ (by simpa [ByteArray.size] using hl)
    simpa using this
  have hnone := idx_none.2 hn
  obtain ⟨w9, h1, h2, h3⟩ := (hm.kept (hB.block _ hlt)).put kdS und66 (by omega) hk trivial (.int .i64 (i : Int)) (g := idxF (L.take (i + 1))) (by
      show ((L.take (i + 1)).findIdx? (fun G => G.name == F.name)).map _ = _
      rw [take_snoc hs, idx_snoc, hnone, if_pos rfl, hlen]
      rfl) (fun y hy => by
      cases y with
      | string nm =>
        show ((L.take (i + 1)).findIdx? (fun G => G.name == nm)).map _ = ((L.take i).findIdx? (fun G => G.name == nm)).map _
        rw [take_snoc hs, idx_snoc, if_neg (fun e => hy (by rw [e])), Option.or_none]
      | _ => rfl)
  refine ⟨w9, h1, ⟨?_, ⟨_, ?_, h2⟩, ?_, ?_⟩⟩
  · exact (h.bel.trans (hB.mono h.bel.size)).grown h3 (Nat.le_trans h.bel.size hB.size) (fun k e => by injection e with e; omega)
  · split <;> omega
  · rw [take_snoc hs]
    exact nodup_snoc.2 ⟨h.nd, hn⟩
  · rw [take_snoc hs, List.all_append, h.pr]
    simp [hp]
theorem par_places {F : Mf} (h : parB F = false) : placesB F = false := by
  unfold parB inB at h
  have h := of_decide_eq_false h
  by_cases h1 : F.params < 0
  · exact pl_1 h1
  · exact pl_2 (by omega)
theorem par_range {F : Mf} (h : parB F = true) : 0 ≤ F.params ∧ F.params ≤ F.types.length := of_decide_eq_true h
theorem rv_4' {L : List Mf} {F : Mf} (hF : F ∈ L) (h : placesB F = false) : rightV L = false := by
  obtain ⟨j, hj⟩ := List.getElem?_of_mem hF
  exact rv_4 (all_bad2 hj h)
theorem rv_6 {L : List Mf} {F : Mf} (hF : F ∈ L) (h : rightB (fsL L) F = false) : rightV L = false := by
  obtain ⟨j, hj⟩ := List.getElem?_of_mem hF
  unfold rightV
  rw [all_bad2 hj h]
  simp
theorem fs_idx {L : List Mf} {nm : By} {k : Nat} (h : L.findIdx? (fun F => F.name == nm) = some k) : ∃ F, L[k]? = some F ∧ F.name = nm ∧ fsL L nm = some F := by
  rw [List.findIdx?_eq_some_iff_getElem] at h
  obtain ⟨h1, h2, h3⟩ := h
  refine ⟨L[k], List.getElem?_eq_getElem h1, by simpa using h2, ?_⟩
  unfold fsL
  rw [List.find?_eq_some_iff_getElem]
  exact ⟨h2, k, h1, rfl, fun j hj => by have := h3 j hj; simpa using this⟩
/-- Where each name leads, once all are laid. -/
theorem of_e {L : List Mf} {w wr : World} {ob : Nat} {q : Option Addr} {c n : Nat} (hr : RowAt wr q c L) (hm : Mp 9 wr ob (idxF L) n) (hp : L.all parB = true) : OfE wr (fsL L) ob q L.length c := by
  refine ⟨hm.lt, fun nm hnm => ?_⟩
  have hk : keyOf Tryd.prog 9 (.string ⟨nm.toArray⟩) = some (.string nm) := by
    have := key_s ⟨nm.toArray⟩ (by simpa [ByteArray.size] using hnm)
    simpa using this
  have hlk : ∀ W, W.heap[ob]? = wr.heap[ob]? → (Instr.lookup 66 (.map (some ob)) (.string ⟨nm.toArray⟩) true).run Tryd.prog W = .ok (.tuple #[(idxF L (.string nm)).getD (.int .i64 0), .bool (idxF L (.string nm)).isSome]) W := fun W hW => (hm.kept hW).look2 kdS und66 (zero3 W) hk
  cases hf : L.findIdx? (fun F => F.name == nm) with
  | none =>
    have e : idxF L (.string nm) = none := by show (L.findIdx? (fun F => F.name == nm)).map _ = _; rw [hf]; rfl
    rw [e] at hlk
    refine .inl ⟨?_, 0, hlk⟩
    exact fsL_none fun j F hF => idx_none.1 hf F (List.mem_of_getElem? hF)
  | some k =>
    have e : idxF L (.string nm) = some (.int .i64 (k : Int)) := by show (L.findIdx? (fun F => F.name == nm)).map _ = _; rw [hf]; rfl
    rw [e] at hlk
    obtain ⟨F, h1, h2, h3⟩ := fs_idx hf
    rcases hr.fn with h4 | ⟨g, p, e1, h4⟩
    · rw [h4] at h1; simp at h1
    · obtain ⟨h5, h6⟩ := h4 k F h1
      exact .inr ⟨g, p, k, F, e1, (List.getElem?_eq_some_iff.1 h1).1, hr.le.1, h3, h5, par_range (List.all_eq_true.1 hp F (List.mem_of_getElem? h1)), h6, hlk⟩
/-- How often each label is there. -/
def cntF (l : List Ms) : Lit → Option Value
  | .int .i64 x => if cntL l x = 0 then none else some (.int .i64 (cntL l x : Int))
  | _ => none
theorem cnt_snoc {l : List Ms} {s : Ms} {x : Int} : cntL (l ++ [s]) x = cntL l x + if s.code = 6 ∧ s.label = x then 1 else 0 := by
  unfold cntL
  rw [List.countP_append]
  congr 1
  by_cases h : s.code = 6 ∧ s.label = x
  · rw [if_pos h]; simp [h.1, h.2]
  · rw [if_neg h]
    have : (s.code == 6 && s.label == x) = false := by
      rw [Bool.eq_false_iff]
      intro e
      simp at e
      exact h e
    simp [this]
theorem cnt_y {l : List Ms} {s : Ms} (h : s.code = 6) : cntL (l ++ [s]) s.label = cntL l s.label + 1 := by rw [cnt_snoc, if_pos ⟨h, rfl⟩]
theorem cnt_n {l : List Ms} {s : Ms} {x : Int} (h : ¬ (s.code = 6 ∧ s.label = x)) : cntL (l ++ [s]) x = cntL l x := by rw [cnt_snoc, if_neg h, Nat.add_zero]
theorem cnt_le {l : List Ms} {x : Int} : cntL l x ≤ l.length := List.countP_le_length
theorem lab_c {w : World} {mb k : Nat} {l : List Ms} (h : Mp 3 w mb (cntF l) k) : LabC w mb l := ⟨h.lt, fun W hW x hx => by
  have := (h.kept hW).look kdI und69 (zero3 W) (key_i x hx)
  rw [this]
  show Result.ok ((if cntL l x = 0 then none else some (Value.int .i64 (cntL l x : Int))).getD (.int .i64 0)) W = _
  split
  · rename_i h0; rw [h0]; rfl
  · rfl⟩
theorem cnt_put {l : List Ms} {s : Ms} {W : World} {b n : Nat} (h : Mp 3 W b (cntF l) n) (hn : n < 1000000) (h6 : s.code = 6) (hI : I64 s.label) : ∃ w9 m, (Instr.mapUpdate 69 (.map (some b)) (.int .i64 s.label) (.int .i64 ((cntL l s.label : Int) + 1))).run Tryd.prog W = .ok () w9 ∧ Mp 3 w9 b (cntF (l ++ [s])) m ∧ m ≤ n + 1 ∧ W.grownBy w9 (some b) := by
  obtain ⟨w9, h1, h2, h3⟩ := h.put kdI und69 (by omega) (key_i _ hI) trivial (.int .i64 ((cntL l s.label : Int) + 1)) (g := cntF (l ++ [s])) (by
      show (if cntL (l ++ [s]) s.label = 0 then none else some (Value.int .i64 (cntL (l ++ [s]) s.label : Int))) = _
      rw [cnt_y h6, if_neg (by omega)]
      simp) (fun y hy => by
      cases y with
      | int k x =>
        cases k <;> try rfl
        show (if cntL (l ++ [s]) x = 0 then none else some (Value.int .i64 (cntL (l ++ [s]) x : Int))) = (if cntL l x = 0 then none else some (Value.int .i64 (cntL l x : Int)))
        rw [cnt_n (fun e => hy (by rw [e.2]))]
      | _ => rfl)
  exact ⟨w9, _, h1, h2, by split <;> omega, h3⟩
theorem cnt_skip {l : List Ms} {s : Ms} (h6 : s.code ≠ 6) : cntF (l ++ [s]) = cntF l := by
  funext y
  cases y with
  | int k x =>
    cases k <;> try rfl
    show (if cntL (l ++ [s]) x = 0 then none else some (Value.int .i64 (cntL (l ++ [s]) x : Int))) = (if cntL l x = 0 then none else some (Value.int .i64 (cntL l x : Int)))
    rw [cnt_n (fun e => h6 e.1)]
  | _ => rfl
/-- A label that is there more than once: not right. -/
theorem labs_cnt {l : List Ms} : labsOk l ↔ ∀ x, cntL l x ≤ 1 := by
  unfold labsOk
  rw [List.nodup_iff_count]
  have e : ∀ x, ((l.filter (fun s => s.code == 6)).map (·.label)).count x = cntL l x := fun x => by
    unfold cntL
    rw [List.count_eq_countP, List.countP_map, List.countP_filter]
    congr 1
    funext s
    simp [Bool.and_comm]
  constructor
  · intro h x
    rw [← e]
    exact h x
  · intro h x
    rw [e]
    exact h x
theorem cnt_one {l : List Ms} (h : ∀ s ∈ l, s.code = 6 → cntL l s.label ≤ 1) : labsOk l := labs_cnt.2 fun x => by
  rcases Nat.lt_or_ge 1 (cntL l x) with hlt | hge
  · have hp : 0 < cntL l x := by omega
    obtain ⟨s, hs, hc⟩ := List.countP_pos_iff.1 hp
    simp at hc
    have := h s hs hc.1
    rw [hc.2] at this
    exact this
  · exact hge
end Go.Proofs.YtjmbjpimabnohaaDoor.Mid
