/- What the three laws of run share: pick, Equal, right. The fact ahead of the three laws of run: how a program ends. -/
import Derived.Test.YtnfhpdbbfejioaaGreatDoorL44
import Derived.Test.YtnfhpdbbfejioaaGreatDoorL32
import Derived.Test.YtnfhpdbbfejioaaGreatDoorL15
import Derived.BigQuiet
namespace Go.Proofs.YtnfhpdbbfejioaaGreatDoor
set_option linter.unusedVariables false
set_option linter.unusedSimpArgs false
open Go Go.RowKit
theorem li_of {w : World} {v : Value} {L : List Fun} (h : Got w v L) : LiS (Lo w.heap.size) w v L := by
  obtain ⟨n, cs, hr, hx⟩ := h
  obtain ⟨L', e1, e2, e3⟩ := fns_open _ cs hx
  have := trs_inj e1
  subst this
  have hn : n = L.length := by have := hr.1; omega
  subst hn
  have : LiS Everywhere w v L := ⟨cs, ⟨hr, fun _ _ => trivial⟩, e3⟩
  exact this.mono (fun b _ hb => hb)
theorem read_rf {s : By} (hs : s.length ≤ 1000000) {L : List Fun} (h : parseV s = .ok (chain (L.map Fun.tr))) : (∀ F ∈ L, GoodF F ∧ RF F) ∧ L.length ≤ 12 := by
  obtain ⟨l, c, t1, p1⟩ := parse_parts h
  obtain ⟨e1, e2⟩ := tok_ends t1 hs
  obtain ⟨L0, q0, gL, q1⟩ := prog_re _ 0 (tok_tk t1) e1 p1
  have := trs_inj q0
  subst this
  obtain ⟨L1, z1, z2, z3, z4⟩ := parse_good hs h
  have := trs_inj z1
  subst this
  exact ⟨fun F hF => ⟨z2 F hF, gL F hF⟩, z4⟩
/-- Check of what Parse told. -/
theorem check_got {s : By} (hs : s.length ≤ 1000000) {L : List Fun} (h : parseV s = .ok (chain (L.map Fun.tr))) (w : World) (v : Value) (hg : Got w v L) : Calls Tryz.prog 16 #[v] w (ChP (chk L) w) := check_any w v L (li_of hg) (read_rf hs h).2 (read_rf hs h).1
theorem rpick_any (a n : Int) (n0 : 0 < n) (n1 : n < 4294967296) (w : World) : Calls Tryz.prog 11 #[.int .i64 a, .int .i64 n] w fun e w' => ∃ x : Nat, (x : Int) < n ∧ e = .returned (.int .i64 (x : Int)) ∧ w' = w := by
  go_enter Tryz.func11, Tryz.ntmps11
  go_wp2
  go_ret
  have h1 : 0 ≤ IntKind.u64.wrap a := by simp [IntKind.wrap, IntKind.bits, IntKind.signed]; omega
  have h2 : (IntKind.u64.wrap a).tmod n = IntKind.u64.wrap a % n := Int.tmod_eq_emod_of_nonneg h1
  have h3 : 0 ≤ IntKind.u64.wrap a % n := Int.emod_nonneg _ (by omega)
  have h4 : IntKind.u64.wrap a % n < n := Int.emod_lt_of_pos _ n0
  refine ⟨(IntKind.u64.wrap a % n).toNat, by omega, ?_, rfl⟩
  show Ending.returned (.int .i64 (wrap64 ((IntKind.u64.wrap a).tmod n))) = _
  have e : wrap64 ((IntKind.u64.wrap a).tmod n) = (((IntKind.u64.wrap a % n).toNat : Nat) : Int) := by
    rw [h2, Int.toNat_of_nonneg h3]
    unfold wrap64
    omega
  rw [e]
theorem InW.of_own {w : World} {B : Nat} {v : Value} {l : List Int} (h : w.ownsRow B 2 1 v l.length (ints l)) : InW w v l := by
  rcases h.2 with ⟨h1, h2⟩ | ⟨g, cap, cur, hv, _, hg, hc, _, _, ht⟩
  · exact ⟨none, 0, by rw [h1, h2], .inl (List.length_eq_zero_iff.1 h2)⟩
  · subst hv
    refine ⟨_, _, rfl, .inr ⟨g, 0, rfl, (Array.getElem?_eq_some_iff.1 hg).1, hc, fun j x hx => ?_⟩⟩
    rw [Nat.zero_add]
    refine cell_at hg ?_
    have e : (ints l)[j]? = some (.int .i64 x) := by rw [List.getElem?_map, hx]; rfl
    rw [← ht, List.getElem?_take] at e
    split at e
    · simpa using e
    · cases e
set_option maxRecDepth 100000 in
set_option maxHeartbeats 1000000 in
theorem equal_same (w : World) (v1 v2 : Value) (l : List Int) (h1 : InW w v1 l) (h2 : InW w v2 l) (hl : l.length ≤ 100000) :
    Calls Tryz.prog 13 #[v1, v2] w fun e w' => e = .returned (.bool true) ∧ Below w.heap.size w w' := by
  obtain ⟨p, c, rfl, h1⟩ := h1
  obtain ⟨q, d, rfl, h2⟩ := h2
  obtain ⟨n, hn⟩ : ∃ n, n = l.length := ⟨_, rfl⟩
  have H1 : Hid (∀ j, j < n → ∃ g o, p = some ⟨g, o, none⟩ ∧ g < w.heap.size ∧ ∀ j, j < n → w.cell? ⟨g, o + j, none⟩ = some (.int .i64 (l.getD j 0))) := fun j hj => by
    rcases h1 with rfl | ⟨g, o, e, hg, _, hx⟩
    · simp at hn; omega
    · exact ⟨g, o, e, hg, fun j hj => hx j _ (by rw [List.getElem?_eq_getElem (by omega)]; simp [List.getD_eq_getElem?_getD, List.getElem?_eq_getElem (show j < l.length by omega)])⟩
  have H2 : Hid (∀ j, j < n → ∃ g o, q = some ⟨g, o, none⟩ ∧ g < w.heap.size ∧ ∀ j, j < n → w.cell? ⟨g, o + j, none⟩ = some (.int .i64 (l.getD j 0))) := fun j hj => by
    rcases h2 with rfl | ⟨g, o, e, hg, _, hx⟩
    · simp at hn; omega
    · exact ⟨g, o, e, hg, fun j hj => hx j _ (by rw [List.getElem?_eq_getElem (by omega)]; simp [List.getD_eq_getElem?_getD, List.getElem?_eq_getElem (show j < l.length by omega)])⟩
  have hn6 : n ≤ 100000 := by omega
  rw [← hn]
  clear h1 h2 hn hl
  go_enter Tryz.func13, Tryz.ntmps13
  go_wp2
  go_loopw [13] (fun i wr => ∃ j : Nat, j ≤ n ∧ i = .int .i64 j ∧ Hid (Below w.heap.size w wr)) (fun i _ => n - (intOf i).toNat)
  case atStart => exact ⟨0, Nat.zero_le _, rfl, Below.refl _ _⟩
  case round =>
    obtain ⟨j, hj, rfl, hb⟩ := hrel
    by_cases hlt : j < n
    · obtain ⟨g, o, rfl, hg, hc⟩ := H1.out j hlt
      obtain ⟨g', o', rfl, hg', hc'⟩ := H2.out j hlt
      have k1 : wr.cell? ⟨g, o + j, none⟩ = some (.int .i64 (l.getD j 0)) := by rw [hb.out.cell (p := ⟨g, o + j, none⟩) hg]; exact hc j hlt
      have k2 : wr.cell? ⟨g', o' + j, none⟩ = some (.int .i64 (l.getD j 0)) := by rw [hb.out.cell (p := ⟨g', o' + j, none⟩) hg']; exact hc' j hlt
      generalize l.getD j 0 = x at *
      clear hc hc'
      go_wp2
      go_region
      go_wp2
      exact ⟨⟨j + 1, by omega, by go_num, hb.out.drew⟩, by simp [intOf]; omega⟩
    · have e : j = n := by omega
      subst e
      go_wp2
      go_ret
      exact ⟨rfl, hb.out⟩
/-- What right tells. -/
def RtP (s : ByteArray) (w : World) (e : Ending) (w' : World) : Prop := Below w.heap.size w w' ∧ ((∃ q n c, e = .returned (.tuple #[.slice q n c, .bool false])) ∨ (∃ q c L, e = .returned (.tuple #[.slice q L.length c, .bool true]) ∧ s.data.toList.length ≤ 1200 ∧ parseV s.data.toList = .ok (chain (L.map Fun.tr)) ∧ chk L = .ok true ∧ Got w' (.slice q L.length c) L))
theorem eq34n (w : World) : (binOp .eql 34 .nilIface .nilIface).run Tryz.prog w = .ok (.bool true) w := by kernel_rfl
theorem eq34a (v : Value) (w : World) : (binOp .eql 34 (.iface 72 v) .nilIface).run Tryz.prog w = .ok (.bool false) w := by kernel_rfl
theorem eq34b (v : Value) (w : World) : (binOp .eql 34 (.iface 46 v) .nilIface).run Tryz.prog w = .ok (.bool false) w := by kernel_rfl
set_option maxRecDepth 100000 in
set_option maxHeartbeats 2000000 in
theorem right_any (w : World) (he : EnvW 14 w) (s : ByteArray) : Calls Tryz.prog 10 #[.string s] w (RtP s w) := by
  have e1 := eq34n
  have e2 := eq34a
  have e3 := eq34b
  by_cases hs : s.size ≤ 1200
  · cases hp : parseV s.data.toList with
    | error k =>
      have HP : Hid (Calls Tryz.prog 14 #[.string s] w fun e w' => ∃ a, e = .returned (.tuple #[.slice none 0 0, .iface 72 (.pointer (some ⟨a, 0, none⟩))]) ∧ Below w.heap.size w w') := (parse_none he.env (by omega) hp).mono fun e w' ⟨a, h1, _, h2⟩ => ⟨a, h1, h2⟩
      clear he hp
      go_enter Tryz.func10, Tryz.ntmps10
      go_wp2_with (go_at_call 14; fail)
      refine HP.out.mono ?_
      rintro e w1 ⟨a, rfl, hb⟩
      have HB : Hid (Below w.heap.size w w1) := hb
      clear hb
      go_wp2_with fail
      go_quiet (fail)
      go_wp2
      go_ret2
      exact ⟨⟨HB.out.os, HB.out.tape, HB.out.output, HB.out.size, HB.out.block⟩, .inl ⟨_, _, _, rfl⟩⟩
    | ok t =>
      have hss : s.data.toList.length = s.size := rfl
      obtain ⟨L, rfl, -, -, -⟩ := parse_good (s := s.data.toList) (by omega) hp
      have hs6 : s.data.toList.length ≤ 1200 := by omega
      have HP : Hid (Calls Tryz.prog 14 #[.string s] w fun e w' => ∃ q c, e = .returned (.tuple #[.slice q L.length c, .nilIface]) ∧ Got w' (.slice q L.length c) L ∧ Below w.heap.size w w') := parse_got he.env (by omega) hp
      have HPs : Hid (parseV s.data.toList = .ok (chain (L.map Fun.tr)) ∧ s.data.toList.length ≤ 1200) := ⟨hp, hs6⟩
      obtain ⟨n, hn⟩ : ∃ n, n = L.length := ⟨_, rfl⟩
      have HN : Hid (n = L.length) := hn
      rw [← hn] at HP
      have hck : (chk L = .ok true) ∨ (chk L = .ok false) ∨ ∃ k a, chk L = .error (k, a) := by
        cases chk L with
        | error e => exact .inr (.inr ⟨e.1, e.2, rfl⟩)
        | ok b => cases b <;> simp
      rcases hck with hck | hck | ⟨k0, a0, hck⟩
      · have HC : Hid (∀ W v, Got W v L → Calls Tryz.prog 16 #[v] W fun e w' => e = .returned .nilIface ∧ Below W.heap.size W w') := fun W v hg => (check_got (by omega) hp W v hg).mono fun e w' h => by
          obtain ⟨⟨_, rfl⟩ | ⟨h, _⟩ | ⟨k, a, b, h, _⟩, hb⟩ := h
          · exact ⟨rfl, hb⟩
          · rw [hck] at h; cases h
          · rw [hck] at h; cases h
        have HCk : Hid (chk L = .ok true) := hck
        clear he hp hn hs6 hck hss
        go_enter Tryz.func10, Tryz.ntmps10
        go_wp2_with (go_at_call 14; fail)
        refine HP.out.mono ?_
        rintro e w1 ⟨q, c, rfl, hg, hb⟩
        have HB : Hid (Below w.heap.size w w1) := hb
        have HG : Hid (Got w1 (.slice q n c) L) := hg
        clear hb hg
        go_wp2_with fail
        go_region_with (first | (go_at_call 16; refine (HC.out _ _ (HG.out.below (Below.refl _ _).drew)).mono ?_; rintro e w2 ⟨rfl, hb2⟩; have HB2 : Hid (Below w.heap.size w w2) := HB.out.trans ((undrew hb2).mono HB.out.size); have HG2 : Hid (Got w2 (.slice q n c) L) := HG.out.below (undrew hb2); clear hb2))
        all_goals go_wp2_with fail
        all_goals go_ret2
        all_goals exact ⟨HB2.out, .inr ⟨q, c, L, by rw [← HN.out]; rfl, HPs.out.2, HPs.out.1, HCk.out, by rw [← HN.out]; exact HG2.out⟩⟩
      · have HC : Hid (∀ W v, Got W v L → Calls Tryz.prog 16 #[v] W fun e w' => e = .returned (.iface 46 (.int .i64 8)) ∧ Below W.heap.size W w') := fun W v hg => (check_got (by omega) hp W v hg).mono fun e w' h => by
          obtain ⟨⟨h, _⟩ | ⟨_, rfl⟩ | ⟨k, a, b, h, _⟩, hb⟩ := h
          · rw [hck] at h; cases h
          · exact ⟨rfl, hb⟩
          · rw [hck] at h; cases h
        have HCk : Hid (chk L = .ok false) := hck
        clear he hp hn hs6 hck hss
        go_enter Tryz.func10, Tryz.ntmps10
        go_wp2_with (go_at_call 14; fail)
        refine HP.out.mono ?_
        rintro e w1 ⟨q, c, rfl, hg, hb⟩
        have HB : Hid (Below w.heap.size w w1) := hb
        have HG : Hid (Got w1 (.slice q n c) L) := hg
        clear hb hg
        go_wp2_with fail
        go_region_with (first | (go_at_call 16; refine (HC.out _ _ (HG.out.below (Below.refl _ _).drew)).mono ?_; rintro e w2 ⟨rfl, hb2⟩; have HB2 : Hid (Below w.heap.size w w2) := HB.out.trans ((undrew hb2).mono HB.out.size); have HG2 : Hid (Got w2 (.slice q n c) L) := HG.out.below (undrew hb2); clear hb2))
        all_goals go_wp2_with fail
        all_goals go_ret2
        all_goals exact ⟨HB2.out, .inl ⟨_, _, _, rfl⟩⟩
      · have HC : Hid (∀ W v, Got W v L → Calls Tryz.prog 16 #[v] W fun e w' => ∃ b, e = .returned (.iface 72 (.pointer (some ⟨b, 0, none⟩))) ∧ Below W.heap.size W w') := fun W v hg => (check_got (by omega) hp W v hg).mono fun e w' h => by
          obtain ⟨⟨h, _⟩ | ⟨h, _⟩ | ⟨k, a, b, _, rfl, _⟩, hb⟩ := h
          · rw [hck] at h; cases h
          · rw [hck] at h; cases h
          · exact ⟨b, rfl, hb⟩
        have HCk : Hid (chk L = .error (k0, a0)) := hck
        clear he hp hn hs6 hck hss
        go_enter Tryz.func10, Tryz.ntmps10
        go_wp2_with (go_at_call 14; fail)
        refine HP.out.mono ?_
        rintro e w1 ⟨q, c, rfl, hg, hb⟩
        have HB : Hid (Below w.heap.size w w1) := hb
        have HG : Hid (Got w1 (.slice q n c) L) := hg
        clear hb hg
        go_wp2_with fail
        go_region_with (first | (go_at_call 16; refine (HC.out _ _ (HG.out.below (Below.refl _ _).drew)).mono ?_; rintro e w2 ⟨b9, rfl, hb2⟩; have HB2 : Hid (Below w.heap.size w w2) := HB.out.trans ((undrew hb2).mono HB.out.size); have HG2 : Hid (Got w2 (.slice q n c) L) := HG.out.below (undrew hb2); clear hb2))
        all_goals go_wp2_with fail
        all_goals go_ret2
        all_goals exact ⟨HB2.out, .inl ⟨_, _, _, rfl⟩⟩
  · have hs2 : decide (1200 < (s.size : Int)) = true := by simp; omega
    clear he
    go_enter Tryz.func10, Tryz.ntmps10
    go_wp2
    go_ret2
    exact ⟨Below.refl _ _, .inl ⟨_, _, _, rfl⟩⟩
def psOf : Tr → Nm
  | .slice [.agg [.lit (.string nm), .lit (.int _ t)]] [g] => (nm, t) :: psOf g
  | _ => []
def funsOf : Tr → List Fun
  | .slice [.agg [.lit (.string nm), .lit (.int k a), ps, b]] [g] => ⟨nm, k, a, psOf ps, b⟩ :: funsOf g
  | _ => []
def treeOf : Except (Int × Nat) Tr → Tr
  | .ok t => t
  | _ => .nil
def gT : By := [102, 110, 32, 109, 97, 105, 110, 40, 41, 32, 123, 32, 118, 97, 114, 32, 105, 32, 61, 32, 105, 110, 112, 117, 116, 40, 41, 59, 32, 119, 104, 105, 108, 101, 32, 40, 105, 32, 62, 32, 48, 41, 32, 123, 32, 112, 114, 105, 110, 116, 32, 105, 59, 32, 105, 32, 61, 32, 105, 32, 45, 32, 49, 59, 32, 125, 32, 114, 101, 116, 117, 114, 110, 32, 55, 32, 47, 32, 105, 59, 32, 125]
def gL : List Fun := funsOf (treeOf (parseV gT))
theorem g_parse : parseV gT = .ok (chain (gL.map Fun.tr)) := by kernel_rfl
theorem g_len : gL.length = 1 := by kernel_rfl
theorem g_chk : chk gL = .ok true := by kernel_rfl
theorem g_run : rnV (58 + 2) gL [2] 100 = (2, 0, [2, 1]) := by kernel_rfl
theorem inw_new (w : World) (l : List Int) : InW (w.alloc (.cells (ints l).toArray 2)) (.slice (some ⟨w.heap.size, 0, none⟩) l.length l.length) l := by
  refine ⟨_, _, rfl, .inr ⟨w.heap.size, 0, rfl, by simp, Nat.le_refl _, fun j x hx => ?_⟩⟩
  refine cell_at (heap_alloc_last w _) ?_
  rw [Nat.zero_add]
  simp [hx]
set_option maxRecDepth 100000 in
set_option maxHeartbeats 2000000 in
theorem goes_ok (w : World) (he : EnvW 14 w) : Calls Tryz.prog 9 #[] w fun e w' => e = .returned (.bool true) ∧ Below w.heap.size w w' := by
  have e1 : (⟨gT.toArray⟩ : ByteArray).data.toList = gT := rfl
  have HP : Hid (Calls Tryz.prog 14 #[.string ⟨#[102, 110, 32, 109, 97, 105, 110, 40, 41, 32, 123, 32, 118, 97, 114, 32, 105, 32, 61, 32, 105, 110, 112, 117, 116, 40, 41, 59, 32, 119, 104, 105, 108, 101, 32, 40, 105, 32, 62, 32, 48, 41, 32, 123, 32, 112, 114, 105, 110, 116, 32, 105, 59, 32, 105, 32, 61, 32, 105, 32, 45, 32, 49, 59, 32, 125, 32, 114, 101, 116, 117, 114, 110, 32, 55, 32, 47, 32, 105, 59, 32, 125]⟩] w fun e w' => ∃ q c, e = .returned (.tuple #[.slice q 1 c, .nilIface]) ∧ Got w' (.slice q 1 c) gL ∧ Below w.heap.size w w') := by
    have := parse_got (s := ⟨gT.toArray⟩) (L := gL) he.env (by decide) (by rw [e1]; exact g_parse)
    rw [g_len] at this
    exact this
  have HR : Hid (∀ W v iv, Got W v gL → InW W iv [2] → Calls Tryz.prog 12 #[v, iv, .int .i64 100] W fun e w' => ∃ p c, e = .returned (.agg #[.int .i64 2, .int .i64 0, .slice p 2 c]) ∧ InW w' (.slice p 2 c) [2, 1] ∧ Below W.heap.size W w') := fun W v iv hg hi => by
    have := goes_any W v iv gL (li_of hg) (read_rf (by decide) g_parse).2 (read_rf (by decide) g_parse).1 g_chk [2] hi 100 (by omega) 58 (by rw [g_run]; decide)
    rw [g_run] at this
    refine this.mono ?_
    rintro e w' ⟨p, c, h1, h2, h3⟩
    exact ⟨p, c, h1, InW.of_own h2, h3⟩
  have HEq : Hid (∀ W v1 v2, InW W v1 [2, 1] → InW W v2 [2, 1] → Calls Tryz.prog 13 #[v1, v2] W fun e w' => e = .returned (.bool true) ∧ Below W.heap.size W w') := fun W v1 v2 h1 h2 => equal_same W v1 v2 [2, 1] h1 h2 (by decide)
  clear he e1
  go_enter Tryz.func9, Tryz.ntmps9
  go_wp2_with (go_at_call 14; fail)
  refine HP.out.mono ?_
  rintro e w1 ⟨q, c, rfl, hg, hb⟩
  have HB : Hid (Below w.heap.size w w1) := hb
  have HG : Hid (Got w1 (.slice q 1 c) gL) := hg
  clear hb hg
  go_wp2_with (go_at_call 12; fail)
  refine (HR.out _ _ _ (HG.out.below (al_below _ _)) (inw_new w1 [2])).mono ?_
  rintro e w2 ⟨p, c2, rfl, hO, hb2⟩
  have HO : Hid (InW w2 (.slice p 2 c2) [2, 1]) := hO
  have HB2 : Hid (Below w.heap.size w w2) := (HB.out.alloc HB.out.size _).trans (hb2.mono (by have := HB.out.size; simp; omega))
  clear hO hb2
  go_wp2_with (go_at_call 13; fail)
  have hin := inw_new (w2.alloc (.cells #[.int .i64 2, .int .i64 0, .slice p 2 c2] 29)) [2, 1]
  refine (HEq.out _ _ _ (HO.out.below (bel2 _ _ _)) (by simpa using hin)).mono ?_
  rintro e w3 ⟨rfl, hb3⟩
  have HB3 : Hid (Below w.heap.size w w3) := (HB2.out.trans ((bel2 w2 _ _).mono HB2.out.size)).trans (hb3.mono (by have := HB2.out.size; simp; omega))
  clear hb3 hin
  go_wp2
  go_ret
  exact ⟨rfl, HB3.out⟩
end Go.Proofs.YtnfhpdbbfejioaaGreatDoor
