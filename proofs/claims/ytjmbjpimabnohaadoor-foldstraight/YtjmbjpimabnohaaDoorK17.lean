/- FG FH -/
import Derived.Test.YtjmbjpimabnohaaDoorK16
namespace Go.Proofs.YtjmbjpimabnohaaDoor.Mid
set_option linter.unusedVariables false
set_option linter.unusedSimpArgs false
open Go Go.RowKit
def lenV : Value → Nat
  | .slice _ n _ => n
  | _ => 0
def RcP (w : World) (ns : Nat) (e : Ending) (w' : World) : Prop := e = .returned (.slice (some ⟨w.heap.size + 2, 0, none⟩) ns ns) ∧ w'.heap[w.heap.size + 2]? = some (.cells (List.replicate ns (Value.bool true)).toArray 4) ∧ Below w.heap.size w w'
structure RcI (w : World) (y : ByteArray) (tv : Value) (q : Option Addr) (ns c k : Nat) (wr : World) : Prop where
  bel : Below w.heap.size w wr
  fn : wr.heap[w.heap.size]? = some (.cells #[.string y, .int .i64 0, tv, .slice q ns c] 35)
  mp : Mp 3 wr (w.heap.size + 1) (fun _ => none) 0
  sn : wr.heap[w.heap.size + 2]? = some (.cells (sn ns k).toArray 4)
  wk : wr.heap[w.heap.size + 3]? = some (.cells #[.int .i64 0] 3)
theorem RcI.set {w : World} {y : ByteArray} {tv : Value} {q : Option Addr} {ns c k : Nat} {wr : World} (h : RcI w y tv q ns c k wr) (hk : k < ns) : RcI w y tv q ns c (k + 1) (wr.setCell ⟨w.heap.size + 2, k, none⟩ (.bool true)) := by
  have ho : ∀ b, b ≠ w.heap.size + 2 → (wr.setCell ⟨w.heap.size + 2, k, none⟩ (.bool true)).heap[b]? = wr.heap[b]? := fun b hb => heap_setCell_other _ _ _ _ hb
  refine ⟨⟨h.bel.os, h.bel.tape, h.bel.output, by simp; exact h.bel.size, fun b hb => by rw [ho b (by omega)]; exact h.bel.block b hb⟩, by rw [ho _ (by omega)]; exact h.fn, h.mp.kept (ho _ (by omega)), ?_, by rw [ho _ (by omega)]; exact h.wk⟩
  rw [heap_setCell_same _ _ _ _ _ _ h.sn]
  simp [sn_set hk]
set_option maxRecDepth 100000 in
set_option maxHeartbeats 8000000 in
theorem reached_any (w : World) (B : Nat) (v : Value) (y : ByteArray) (tl : List Int) (l : List Ms) (h : FlM w B v y tl l) (hs : StrL tl.length l) : Calls Tryd.prog 66 #[v] w (RcP w l.length) := by
  obtain ⟨tv, sv, rfl, h1, h2⟩ := h
  obtain ⟨tq, tc, rfl⟩ := own_slice h1
  obtain ⟨sq, sc, rfl⟩ := own_slice h2
  obtain ⟨nt, hnt⟩ : ∃ nt, tl.length = nt := ⟨_, rfl⟩
  obtain ⟨ns, hns⟩ : ∃ ns, l.length = ns := ⟨_, rfl⟩
  rw [hnt] at hs
  have hp := hs.pos
  have hle := hs.le
  rw [hns] at h2 hp hle
  have HR : Hid (w.ownsRow B 44 10 (.slice sq ns sc) ns (rowC l) ∧ l.length = ns ∧ StrL nt l) := ⟨h2, hns, hs⟩
  have hmm : ∀ W : World, (Instr.makeMap 69 none).run Tryd.prog W = .ok (.map (some W.heap.size)) (W.alloc (.map #[] 0)) := fun W => by simp [Instr.makeMap, go_sem]
  obtain ⟨A, hA⟩ : ∃ A : Obj, A = .cells #[.string y, .int .i64 0, .slice tq nt tc, .slice sq ns sc] 35 := ⟨_, rfl⟩
  obtain ⟨W2, hW2⟩ : ∃ W2, W2 = (w.alloc A).alloc (.map #[] 0) := ⟨_, rfl⟩
  have hb2 : Below w.heap.size w W2 := by rw [hW2]; exact (al_bel _ _).trans ((al_bel (w.alloc _) _).mono (by simp))
  have hz2 : W2.heap.size = w.heap.size + 2 := by rw [hW2]; simp
  have k0 : W2.heap[w.heap.size]? = some (.cells #[.string y, .int .i64 0, .slice tq nt tc, .slice sq ns sc] 35) := by rw [hW2, row_eq_alloc (by simp), heap_alloc_last, hA]
  have HM2 : Hid (Mp 3 W2 (w.heap.size + 1) (fun _ => none) 0) := by
    have e : (w.alloc A).heap.size = w.heap.size + 1 := by simp
    rw [hW2, ← e]
    exact Mp.made 3 (w.alloc A)
  have HW2 : Hid (Below w.heap.size w W2 ∧ W2.heap.size = w.heap.size + 2 ∧ W2.heap[w.heap.size]? = some (.cells #[.string y, .int .i64 0, .slice tq nt tc, .slice sq ns sc] 35)) := ⟨hb2, hz2, k0⟩
  have HSt : Hid (∀ (W : World) (i : Nat) (s : Ms), Below w.heap.size w W → l[i]? = some s → ∃ g, sq = some ⟨g, 0, none⟩ ∧ W.cell? ⟨g, i * 10, none⟩ = some (.int .i64 s.code) ∧ W.cell? ⟨g, i * 10 + 7, none⟩ = some (.int .i64 0)) := fun W i s hb hi => by
    obtain ⟨g, e, hc⟩ := row_step (own_at h2 (fun k hk => hb.block k (own_lt h2 k hk))) hi
    have h0 := hc 0 (by omega)
    rw [Nat.add_zero] at h0
    have h7 := hc 7 (by omega)
    have : (sC s)[7]? = some (.int .i64 0) := by show some (Value.int .i64 s.label) = _; rw [hs.lab s (List.mem_of_getElem? hi)]
    exact ⟨g, e, h0, h7.trans this⟩
  have hmk := mk_bools ns (by omega)
  have u3 := cell_at (i := 3) k0 rfl
  rw [hW2, hA] at u3
  rw [hA] at hW2
  generalize hG : RcP w l.length = G
  have HG : Hid (RcP w l.length = G) := hG
  rw [hnt, hns]
  clear h1 h2 hs hb2 hz2 k0 hA hnt hns hG
  go_enter Tryd.func66, Tryd.ntmps66
  go_wp2_with fail
  rw [← hW2]
  clear hW2 u3
  go_loopw [16] (fun v wr => ∃ i : Nat, i ≤ ns ∧ v = .int .i64 i ∧ Hid (wr = W2)) (fun v _ => ns - (intOf v).toNat)
  case atStart => exact ⟨0, Nat.zero_le _, rfl, rfl⟩
  case round =>
    obtain ⟨i, hin, rfl, HWr⟩ := hrel
    obtain rfl := HWr.out
    clear HWr
    have x3 := cell_at (i := 3) HW2.out.2.2 rfl
    by_cases hlt : i < ns
    · obtain ⟨s, hsi⟩ : ∃ s, l[i]? = some s := ⟨l[i]'(by have := HR.out.2.1; omega), List.getElem?_eq_getElem _⟩
      obtain ⟨g, rfl, x0, -⟩ := HSt.out wr i s HW2.out.1 hsi
      have hc := (HR.out.2.2.all s (List.mem_of_getElem? hsi)).code
      obtain ⟨cd, hcd⟩ : ∃ cd, s.code = cd := ⟨_, rfl⟩
      rw [hcd] at x0 hc
      have t6 : (cd == 6) = false := by rcases hc with h | h | h | h <;> rw [h] <;> decide
      clear hsi hcd hc
      go_wp2
      exact ⟨⟨i + 1, by omega, by go_num, by trivial⟩, by simp [intOf]; omega⟩
    · obtain ⟨W4, hW4⟩ : ∃ W4, W4 = (wr.alloc (.cells (List.replicate ns (Value.bool false)).toArray 4)).alloc (.cells #[.int .i64 0] 3) := ⟨_, rfl⟩
      have HI0 : Hid (RcI w y (.slice tq nt tc) sq ns sc 0 W4) := by
        have hbw : Below wr.heap.size wr W4 := by rw [hW4]; exact (al_bel _ _).trans ((al_bel (wr.alloc _) _).mono (by simp))
        have hz := HW2.out.2.1
        refine ⟨HW2.out.1.trans (hbw.mono HW2.out.1.size), by rw [hbw.block _ (by omega)]; exact HW2.out.2.2, HM2.out.kept (hbw.block _ (by omega)), ?_, ?_⟩
        · rw [hW4, ← hz, row_eq_alloc (by simp), heap_alloc_last, sn_0]
        · have e : (wr.alloc (.cells (List.replicate ns (Value.bool false)).toArray 4)).heap.size = w.heap.size + 3 := by simp; omega
          rw [hW4, ← e, heap_alloc_last]
      have hz := HW2.out.2.1
      have hrep : (List.replicate ns (Value.bool false)).toArray = Array.replicate ns (Value.bool false) := by simp
      rw [hrep] at hW4
      clear hrep
      go_wp2_with fail
      rw [← hW4]
      clear hW4 hmk x3 hz
      go_loopw [7] (fun v wr => (v = .slice (some ⟨w.heap.size + 2 + 1, 0, none⟩) 1 1 ∧ Hid (RcI w y (.slice tq nt tc) sq ns sc 0 wr)) ∨ (v = .slice (some ⟨w.heap.size + 2 + 1, 0, none⟩) 0 1 ∧ Hid (RcI w y (.slice tq nt tc) sq ns sc ns wr))) (fun v _ => lenV v)
      case atStart => exact .inl ⟨rfl, HI0⟩
      case round =>
        rcases hrel with ⟨rfl, HI⟩ | ⟨rfl, HI⟩
        · have x0 : wr.cell? ⟨w.heap.size + 2 + 1, 0, none⟩ = some (.int .i64 0) := cell_at (i := 0) HI.out.wk rfl
          go_wp2_with fail
          go_loopw [7, 8] (fun v7 v8 w2 => ∃ k : Nat, k < ns ∧ v7 = .slice (some ⟨w.heap.size + 2 + 1, 0, none⟩) 0 1 ∧ v8 = .int .i64 k ∧ Hid (RcI w y (.slice tq nt tc) sq ns sc k w2)) (fun _ v8 _ => ns - (intOf v8).toNat)
          case atStart => exact ⟨0, hp, rfl, rfl, HI⟩
          case round =>
            obtain ⟨k, hk, rfl, rfl, HK⟩ := hrel
            obtain ⟨s, hsi⟩ : ∃ s, l[k]? = some s := ⟨l[k]'(by have := HR.out.2.1; omega), List.getElem?_eq_getElem _⟩
            have hcode := (HR.out.2.2.all s (List.mem_of_getElem? hsi)).code
            have h0 : wr.cell? ⟨w.heap.size + 2, k, none⟩ = some (.bool false) := cell_at HK.out.sn (by simpa using sn_get hk)
            have f0 := row_free HK.out.sn k
            obtain ⟨W5, hW5⟩ : ∃ W5, W5 = wr.setCell ⟨w.heap.size + 2, k, none⟩ (.bool true) := ⟨_, rfl⟩
            have HK5 : Hid (RcI w y (.slice tq nt tc) sq ns sc (k + 1) W5) := by rw [hW5]; exact HK.out.set hk
            have y3 := cell_at (i := 3) HK5.out.fn rfl
            obtain ⟨g, rfl, z0, z7⟩ := HSt.out W5 k s HK5.out.bel hsi
            have lk : (Instr.lookup 69 (.map (some (w.heap.size + 1))) (.int .i64 0) true).run Tryd.prog W5 = .ok (.tuple #[.int .i64 0, .bool false]) W5 := HK5.out.mp.look2 kdI und69 (zero3 W5) (key_i 0 ⟨by omega, by omega⟩)
            obtain ⟨cd, hcd⟩ : ∃ cd, s.code = cd := ⟨_, rfl⟩
            have HEq : Hid (cd = 8 → k + 1 = ns) := fun e => by
              have := HR.out.2.2.only k s hsi (hcd.trans e)
              have := HR.out.2.1
              omega
            have HNe : Hid (cd ≠ 8 → k + 1 < ns) := fun e => by
              have h9 := HR.out.2.1
              rcases Nat.lt_or_ge (k + 1) ns with h | h
              · exact h
              · have e2 : k = l.length - 1 := by omega
                rw [e2] at hsi
                exact absurd (hcd.symm.trans (HR.out.2.2.last s hsi)) e
            rw [hcd] at hcode z0
            have t4 : (cd == 4) = false := by rcases hcode with h | h | h | h <;> rw [h] <;> decide
            rw [hW5] at y3 z0 z7 lk HK5
            clear hsi hcd hcode hW5
            by_cases h8 : cd = 8
            · have hke : k + 1 = ns := HEq.out h8
              subst h8
              rw [hke] at HK5
              go_wp2
              exact ⟨.inr ⟨rfl, HK5⟩, by simp [lenV]⟩
            · have hkn := HNe.out h8
              have t8 : (cd == 8) = false := by simpa using h8
              go_wp2
              exact ⟨⟨k + 1, hkn, rfl, by go_num, HK5⟩, by simp [intOf]; omega⟩
        · have HX : Hid (G (.returned (.slice (some ⟨w.heap.size + 2, 0, none⟩) ns ns)) wr) := by
            show G _ _
            rw [← HG.out, HR.out.2.1]
            exact ⟨rfl, by rw [← sn_n]; exact HI.out.sn, HI.out.bel⟩
          go_wp2
          exact HX.out
theorem sets_same (b : Nat) : ∀ (vs : List Value) (o : Nat) (w : World) (cs : Array Value) (t : TypeId), w.heap[b]? = some (.cells cs t) → (∀ j, j < vs.length → cs[o + j]? = vs[j]?) → Sm0 w (w.setCells b o vs)
  | [], o, w, cs, t, _, _ => Sm0.refl w
  | v :: vs, o, w, cs, t, h, hv => by
    have h0 : cs[o]? = some v := by have := hv 0 (by simp); simpa using this
    have hk := set_same (v := v) h h0
    have hs : Sm0 w (w.setCell ⟨b, o, none⟩ v) := ⟨hk, by simp [World.setCell], rfl, rfl, rfl⟩
    refine hs.trans (sets_same b vs (o + 1) _ cs t (by rw [hk]; exact h) (fun j hj => ?_))
    have := hv (j + 1) (by simp; omega)
    rw [show o + 1 + j = o + (j + 1) by omega, this]
    rfl
theorem app_at (W : World) (sb k sc ab : Nat) (news : List Value) (hnl : news.length = 10) (hnews : ∀ j u, news[j]? = some u → W.cell? ((⟨ab, 0, none⟩ : Addr).add j) = some u) (h1 : ∀ u ∈ news, u.oneCell' = true) (hroom : k + 1 ≤ sc) (cs : Array Value) (hb : W.heap[sb]? = some (.cells cs 44)) (hin : ∀ j, j < 10 → cs[k * 10 + j]? = news[j]?) :
    (Builtin.append_ #[33, 33] 33 #[.slice (some ⟨sb, 0, none⟩) k sc, .slice (some ⟨ab, 0, none⟩) 1 1]).run Tryd.prog W = .ok (.slice (some ⟨sb, 0, none⟩) (k + 1) sc) (W.setCells sb (k * 10) news) := by
  obtain ⟨i, hi, hz0, hz1, hz2⟩ := info_parts info44
  have := run_append_room_cells (P := Tryd.prog) W 33 33 44 i und33 hi sb 0 k sc ⟨ab, 0, none⟩ 1 1 news (by rw [hz1, hnl]) hnews h1 hroom (fun j hj => ?_) (fun j hj => ?_)
  · rw [hz1, Nat.zero_add] at this
    exact this
  · rw [hz1, Nat.zero_add]
    have hj9 : j < 10 := by omega
    have e := hin j hj9
    rw [List.getElem?_eq_getElem (by omega)] at e
    rw [cell_at hb e]
    rfl
  · rw [hz1, Nat.zero_add]
    exact row_free hb _
theorem clear_none (W : World) (ty : TypeId) (a : Option Addr) (c : Nat) : (Builtin.clear_ #[33] ty #[.slice a 0 c]).run Tryd.prog W = .ok (.tuple #[]) W := by
  cases a <;> simp [Builtin.clear_, run_underlying und33]
end Go.Proofs.YtjmbjpimabnohaaDoor.Mid
