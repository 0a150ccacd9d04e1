/- VO -/
import Derived.Test.YtnfhpdbbfejioaaGreatDoorQ14
namespace Go.Proofs.YtnfhpdbbfejioaaGreatDoor
set_option linter.unusedVariables false
set_option linter.unusedSimpArgs false
set_option maxRecDepth 100000
set_option maxHeartbeats 4000000
open Go Go.RowKit
abbrev Everywhere : Nat → Prop := fun _ => True
def Got (w : World) (v : Value) (L : List Fun) : Prop := ∃ (n : Nat) (cs : List Value), w.ownsRow 0 86 4 v n cs ∧ FnAt Everywhere w (chain (L.map Fun.tr)) cs
theorem Keeps.below {S : Nat → Prop} {w w' : World} (h : Below w.heap.size w w') : Keeps S w w' := fun b cs t _ _ hb => by
 have hl : b < w.heap.size := (Array.getElem?_eq_some_iff.1 hb).1
 rw [h.block b hl]
 exact hb
theorem Got.below {w w' : World} {v : Value} {L : List Fun} (h : Got w v L) (hb : Below w.heap.size w w') : Got w' v L := by
 obtain ⟨n, cs, h1, h2⟩ := h
 exact ⟨n, cs, (Keeps.below hb).row (by decide) h1 (S := Everywhere) (fun _ _ => trivial), FnAt.kept (Keeps.below hb) _ _ h2⟩
theorem EnvW.below {w w' : World} (h : EnvW 14 w) (hb : Below w.heap.size w w') : EnvW 14 w' := by
 have hlt := h.env.lt
 refine ⟨h.env.below hb, ?_, h.far, Nat.le_trans h.le hb.size⟩
 have hv := h.pow
 unfold Pw Lib.TabIs World.var? at *
 simp only [gPow, Option.bind_some] at hv ⊢
 rw [hb.block 7 (by omega)]
 exact hv
theorem print_got {w : World} {v : Value} {L : List Fun} (he : EnvW 14 w) (h : Got w v L) (hg : ∀ F ∈ L, GoodF F) (hl : (prT L).length ≤ 150100) (h12 : L.length ≤ 12) :
  Calls Tryz.prog 15 #[v] w fun e w' => e = .returned (.string ⟨(prT L).toArray⟩) ∧ Below w.heap.size w w' := by
 obtain ⟨n, cs, h1, h2⟩ := h
 exact (print_of he h1 (fun _ _ => trivial) h2 hg hl h12).2
theorem parse_got {s : ByteArray} {w : World} {L : List Fun} (he : Env w) (hs : s.size ≤ 1000000) (h : zO s.data.toList = .ok (chain (L.map Fun.tr))) :
  Calls Tryz.prog 14 #[.string s] w fun e w' => ∃ q c, e = .returned (.tuple #[.slice q L.length c, .nilIface]) ∧ Got w' (.slice q L.length c) L ∧ Below w.heap.size w w' := by
 refine (parse_any s w he hs).mono ?_
 intro e w' hp
 rw [h] at hp
 obtain ⟨⟨v, n, cs, rfl, hr, hx⟩, hb⟩ := hp
 obtain ⟨L', e1, e2, _⟩ := fns_open _ cs hx
 have := trs_inj e1
 subst this
 have hn : n = L.length := by have := hr.1; omega
 subst hn
 obtain ⟨q, c, rfl⟩ := ze hr
 exact ⟨q, c, rfl, ⟨L.length, cs, own_mono hr (Nat.zero_le _), FnAt.mono (fun _ _ _ => trivial) _ _ hx⟩, hb⟩
theorem parse_none {s : ByteArray} {w : World} {k : Int} {p : Nat} (he : Env w) (hs : s.size ≤ 1000000) (h : zO s.data.toList = .error (k, p)) :
  Calls Tryz.prog 14 #[.string s] w fun e w' => ∃ a, e = .returned (.tuple #[.slice none 0 0, .iface 72 (.pointer (some ⟨a, 0, none⟩))]) ∧ w'.heap[a]? = some (.cells #[.int .i64 k, .int .i64 (p : Int)] 139) ∧ Below w.heap.size w w' := by
 refine (parse_any s w he hs).mono ?_
 intro e w' hp
 rw [h] at hp
 obtain ⟨⟨a, rfl, ha⟩, hb⟩ := hp
 exact ⟨a, rfl, ha, hb⟩
end Go.Proofs.YtnfhpdbbfejioaaGreatDoor
