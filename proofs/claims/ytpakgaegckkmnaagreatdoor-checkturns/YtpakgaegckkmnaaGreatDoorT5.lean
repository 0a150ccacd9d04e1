/- Package tree's cut, walked. -/
import Derived.Test.YtpakgaegckkmnaaGreatDoorT4
import Derived.OwnWalk
import Derived.Deep.AppendLies
namespace Go.Proofs.YtpakgaegckkmnaaGreatDoor
set_option linter.unusedVariables false
set_option linter.unusedSimpArgs false
open Go Go.RowKit

theorem info_parts {t : TypeId} {z : Value} {a b : Nat} (h : (Tryz.prog.info? t).map (fun i => (i.zero, i.size, i.bytes)) = some (some z, a, b)) : ∃ i, Tryz.prog.info? t = some i ∧ i.zero = some z ∧ i.size = a ∧ i.bytes = b := by
  obtain ⟨i, hi, he⟩ := Option.map_eq_some_iff.1 h
  injection he with h1 h2
  injection h2 with h2 h3
  exact ⟨i, hi, h1, h2, h3⟩
theorem info75 : (Tryz.prog.info? 75).map (fun i => (i.zero, i.size, i.bytes)) = some (some (.agg #[.int .i64 0, .string ⟨#[]⟩, .int .i64 0]), 3, 32) := by kernel_rfl
/-- Tokens' cells. -/
def tkc (l : List Tok) : List Value := l.flatMap fun t => [.int .i64 (t.k : Int), str t.t, .int .i64 (t.p : Int)]
theorem tkc_snoc (l : List Tok) (t : Tok) : tkc (l ++ [t]) = tkc l ++ [.int .i64 (t.k : Int), str t.t, .int .i64 (t.p : Int)] := by simp [tkc]
theorem own_slice {W : World} {B e z n : Nat} {v : Value} {l : List Value} (h : W.ownsRow B e z v n l) : ∃ q c, v = .slice q n c := by
  rcases h.2 with ⟨rfl, rfl⟩ | ⟨g, cap, cur, rfl, _⟩
  · exact ⟨_, _, rfl⟩
  · exact ⟨_, _, rfl⟩
theorem grown_none {w w' : World} (hb : Below w.heap.size w w') : w.grownBy w' none := ⟨hb.os, hb.tape, hb.output, hb.size, fun j hj _ => hb.block j hj⟩
theorem skip_at (s : By) (j : Nat) (hj : j ≤ s.length) : s.drop (skipN s j) = skipS false (s.drop j) ∧ skipN s j ≤ s.length ∧ j ≤ skipN s j := by
  have h1 := skip_drop false (s.drop j)
  have h2 := skip_len false (s.drop j)
  rw [List.length_drop] at h1 h2
  unfold skipN
  refine ⟨?_, by omega, by omega⟩
  have h3 : s.drop (s.length - (skipS false (s.drop j)).length) = (s.drop j).drop (s.length - j - (skipS false (s.drop j)).length) := by
    rw [List.drop_drop]; congr 1; omega
  exact h3.trans h1.symm

/-- Behind so many tokens. -/
structure CI (w : World) (s : By) (j n : Nat) (l : List Tok) (v : Value) (W : World) : Prop where
  cut : ∃ f, (s.drop j).length + 1 ≤ f ∧ cutV s.length f (s.drop j) l = tokV s
  len : n = l.length
  max : l.length ≤ 1500
  row : W.ownsRow (w.heap.size + 1) 75 3 v n (tkc l)
  map : MpAt W w.heap.size 12 wdP
  low : Below w.heap.size w W
theorem CI.kept {w W W' : World} {s : By} {j n : Nat} {l : List Tok} {v : Value} (h : CI w s j n l v W) (hb : Below W.heap.size W W') : CI w s j n l v W' :=
  ⟨h.cut, h.len, h.max, h.row.kept (grown_none hb) (by cases v.ownBlock <;> simp), h.map.below hb, h.low.trans (hb.mono h.low.size)⟩
theorem CI.lt {w W : World} {s : By} {j n : Nat} {l : List Tok} {v : Value} (h : CI w s j n l v W) : w.heap.size < W.heap.size := World.ownsMap.lt h.map

def CutPost (w : World) (x : Except (Int × Nat) (List Tok)) (e : Ending) (w' : World) : Prop :=
  match x with
  | .ok l => ∃ v, e = .returned v ∧ w'.ownsRow (w.heap.size + 1) 75 3 v l.length (tkc l)
  | .error (c, p) => Threw c p e w'

set_option maxRecDepth 100000 in
set_option maxHeartbeats 8000000 in
theorem cut_any (s : ByteArray) (w : World) (he : Env w) (hs : s.size ≤ 1000000) :
    Calls Tryz.prog 15 #[.string s] w fun e w' => CutPost w (tokV s.data.toList) e w' ∧ Below w.heap.size w w' := by
  obtain ⟨i0, hi0, hz0, hs0, hb0⟩ := info_parts info75
  have hsl : s.data.toList.length = s.size := by simp
  have HE : Hid (∀ w', Below w.heap.size w w' → Env w') := fun w' hb => he.below hb
  have HW : Hid (Calls Tryz.prog 25 #[] w fun e w' => e = .returned (.map (some w.heap.size)) ∧ MpAt w' w.heap.size 12 wdP ∧ Below w.heap.size w w') := words_any w
  have HSk : Hid (∀ (k : Nat) W, k ≤ s.size → Below w.heap.size w W → Calls Tryz.prog 26 #[.string s, .int .i64 (k : Int)] W fun e w' => e = .returned (.int .i64 (skipN s.data.toList k : Nat)) ∧ Below W.heap.size W w') := fun k W hk hb => skip_any s k W (HE.out W hb) hk hs
  have HSl : Hid (s.data.toList.length = s.size) := hsl
  clear he hsl
  go_enter Tryz.func15, Tryz.ntmps15
  go_wp2_with (go_at_call 25; fail)
  refine HW.out.mono ?_
  rintro e w1 ⟨rfl, hm1, hb1⟩
  have HM1 : Hid (MpAt w1 w.heap.size 12 wdP) := hm1
  have HB1 : Hid (Below w.heap.size w w1) := hb1
  clear hm1 hb1
  go_wp2_with (go_at_call 26; fail)
  refine (HSk.out 0 w1 (Nat.zero_le _) HB1.out).mono ?_
  rintro e w2 ⟨rfl, hb2⟩
  have HI0 : Hid (CI w s.data.toList (skipN s.data.toList 0) 0 [] (.slice none 0 0) w2) := by
    obtain ⟨s1, s2, s3⟩ := skip_at s.data.toList 0 (Nat.zero_le _)
    refine ⟨⟨s.data.toList.length + 1, ?_, ?_⟩, rfl, by simp, World.ownsRow_nil _ _ _ _, HM1.out.below hb2, HB1.out.trans (hb2.mono HB1.out.size)⟩
    · rw [List.length_drop]; omega
    · rw [s1]; rfl
  have hj0 : skipN s.data.toList 0 ≤ s.size := by rw [← HSl.out]; exact (skip_at s.data.toList 0 (Nat.zero_le _)).2.1
  generalize skipN s.data.toList 0 = j0 at *
  clear hb2
  go_wp2_with fail
  go_loopw [3, 5] (fun v3 i wr => ∃ (j n : Nat) (l : List Tok) (q : Option Addr) (c : Nat), j ≤ s.size ∧ i = .int .i64 j ∧ v3 = .slice q n c ∧ Hid (CI w s.data.toList j n l (.slice q n c) wr)) (fun _ i _ => s.size - (intOf i).toNat)
  case atStart => exact ⟨j0, 0, [], none, 0, hj0, rfl, rfl, HI0.out⟩
  case round =>
    obtain ⟨j, n, l, q, c, hj, rfl, rfl, HC⟩ := hrel
    have hn15 : n ≤ 1500 := by rw [HC.out.len]; exact HC.out.max
    by_cases hlt : j < s.size
    · have hdl : (s.data.toList.drop j).length = s.size - j := by rw [List.length_drop, HSl.out]
      have hne : ¬ s.data.toList.drop j = [] := fun e => by rw [e] at hdl; simp at hdl; omega
      cases ho : oneTok (s.data.toList.drop j) with
      | none =>
        have HTok : Hid (Calls Tryz.prog 27 #[.string s, .int .i64 (j : Int), .map (some w.heap.size)] wr fun e w' => Threw 3 j e w' ∧ Below wr.heap.size wr w') := tokenAt_no s j w.heap.size wr (HE.out wr HC.out.low) (by omega) hs ho
        have HV : Hid (tokV s.data.toList = .error (3, j)) := by
          show _ = _
          obtain ⟨f, hf1, hf2⟩ := HC.out.cut
          obtain ⟨f', rfl⟩ : ∃ f', f = f' + 1 := ⟨f - 1, by omega⟩
          rw [← hf2, cutV, if_neg hne, ho, hdl, HSl.out]
          show Except.error (3, s.size - (s.size - j)) = _
          rw [show s.size - (s.size - j) = j by omega]
        clear ho hne hdl
        go_wp2_with (go_at_call 27; fail)
        refine HTok.out.mono ?_
        rintro e w3 ⟨⟨a, rfl, ha⟩, hb3⟩
        refine ⟨rfl, ?_, HC.out.low.trans (hb3.mono HC.out.low.size)⟩
        rw [HV.out]
        exact ⟨a, rfl, ha⟩
      | some kt =>
        obtain ⟨kd, t⟩ := kt
        obtain ⟨tx, htx⟩ : ∃ tx : ByteArray, tx = ⟨t.toArray⟩ := ⟨_, rfl⟩
        have htx' : str t = .string tx := by rw [htx]
        have htz : tx.size = t.length := by rw [htx]; simp [ByteArray.size]
        obtain ⟨tp1, tp2⟩ := one_pos ho
        have HTok : Hid (Calls Tryz.prog 27 #[.string s, .int .i64 (j : Int), .map (some w.heap.size)] wr fun e w' => e = .returned (.agg #[.int .i64 (kd : Int), .string tx, .int .i64 (j : Int)]) ∧ Below wr.heap.size wr w') := by
          have := tokenAt_yes s j w.heap.size wr (HE.out wr HC.out.low) HC.out.map (by omega) hs kd t ho
          rw [htx'] at this
          exact this
        have HStp : Hid (∀ f, cutV s.data.toList.length (f + 1) (s.data.toList.drop j) l = if l.length = 1500 then .error (4, j) else cutV s.data.toList.length f (s.data.toList.drop (skipN s.data.toList (j + tx.size))) (l ++ [⟨kd, t, j⟩])) := fun f => by
          have e1 : s.data.toList.length - (s.data.toList.drop j).length = j := by rw [hdl, HSl.out]; omega
          rw [cutV, if_neg hne, ho]
          simp only
          rw [e1, (skip_at s.data.toList (j + tx.size) (by rw [HSl.out, htz]; omega)).1, List.drop_drop, htz]
        have hjt : j + tx.size ≤ s.size := by rw [htz]; omega
        have htp : 1 ≤ tx.size := by rw [htz]; omega
        have HTx : Hid (str t = .string tx) := htx'
        clear ho hne hdl htx htx' htz tp1 tp2
        by_cases h15 : n = 1500
        · have HV : Hid (tokV s.data.toList = .error (4, j)) := by
            show _ = _
            obtain ⟨f, hf1, hf2⟩ := HC.out.cut
            obtain ⟨f', rfl⟩ : ∃ f', f = f' + 1 := ⟨f - 1, by omega⟩
            rw [← hf2, HStp.out, if_pos (by rw [← HC.out.len]; exact h15)]
          subst h15
          go_wp2_with (go_at_call 27; fail)
          refine HTok.out.mono ?_
          rintro e w3 ⟨rfl, hb3⟩
          have HB3 : Hid (Below wr.heap.size wr w3) := hb3
          clear hb3
          go_wp2
          have hcl := HC.out.lt
          have hz3 : w.heap.size ≤ w3.heap.size := by have := HB3.out.size; omega
          have hlow : Below w.heap.size w w3 := HC.out.low.trans (HB3.out.mono HC.out.low.size)
          refine ⟨rfl, ?_, (hlow.alloc hz3 _).alloc (by simp; omega) _⟩
          rw [HV.out]
          refine ⟨_, rfl, ?_⟩
          have := heap_alloc_last (w3.alloc (.cells #[.int .i64 (kd : Int), .string tx, .int .i64 (j : Int)] 75)) (.cells #[.int .i64 4, .int .i64 (j : Int)] 78)
          simpa using this
        · have hn2 : ((n : Int) == 1500) = false := by simp; omega
          go_wp2_with (go_at_call 27; fail)
          refine HTok.out.mono ?_
          rintro e w3 ⟨rfl, hb3⟩
          have hC3 := HC.out.kept hb3
          have hcl := hC3.lt
          have HC3 : Hid (CI w s.data.toList j n l (.slice q n c) w3) := hC3
          have HW3 : Hid (((w3.alloc (.cells #[.int .i64 (kd : Int), .string tx, .int .i64 (j : Int)] 75)).alloc (.cells #[.int .i64 (kd : Int), .string tx, .int .i64 (j : Int)] 75)).ownsRow (w.heap.size + 1) 75 3 (.slice q n c) n (tkc l)) := (hC3.row.alloc _).alloc _
          have HN3 : Hid (∀ (i : Nat) (x : Value), ([.int .i64 (kd : Int), .string tx, .int .i64 (j : Int)] : List Value)[i]? = some x → ((w3.alloc (.cells #[.int .i64 (kd : Int), .string tx, .int .i64 (j : Int)] 75)).alloc (.cells #[.int .i64 (kd : Int), .string tx, .int .i64 (j : Int)] 75)).cell? ((⟨w3.heap.size + 1, 0, none⟩ : Addr).add i) = some x) := World.news_of_block (cs := #[.int .i64 (kd : Int), .string tx, .int .i64 (j : Int)]) (t := 75) (fr := (0, 0)) (by
            have := heap_alloc_last (w3.alloc (.cells #[.int .i64 (kd : Int), .string tx, .int .i64 (j : Int)] 75)) (.cells #[.int .i64 (kd : Int), .string tx, .int .i64 (j : Int)] 75)
            simpa using this)
          have H13 : Hid (∀ u ∈ ([.int .i64 (kd : Int), .string tx, .int .i64 (j : Int)] : List Value), u.oneCell' = true) := fun u hu => by simp at hu; rcases hu with rfl | rfl | rfl <;> rfl
          have HZ3 : Hid (w.heap.size + 1 ≤ ((w3.alloc (.cells #[.int .i64 (kd : Int), .string tx, .int .i64 (j : Int)] 75)).alloc (.cells #[.int .i64 (kd : Int), .string tx, .int .i64 (j : Int)] 75)).heap.size) := by show _ ≤ _; simp; omega
          clear hb3 hC3
          go_wp2_with (at_builtin; refine wpList_append_own _ rfl _ _ 46 rfl (w.heap.size + 1) 75 i0 _ 3 32 Tryz.underlying46 hi0 hz0 hs0 hb0 rfl (by decide) _ n _ rfl HW3.out ⟨w3.heap.size + 1, 0, none⟩ 1 1 [.int .i64 (kd : Int), .string tx, .int .i64 (j : Int)] rfl rfl HN3.out H13.out (by unfold maxLen; omega) (by omega) HZ3.out ?_)
          intro v4 w4 hown4 hgrow4 _
          obtain ⟨q4, c4, rfl⟩ := own_slice hown4
          have hgne : ∀ i, Value.ownBlock (.slice q n c) = some i → i < w3.heap.size := fun i e => (HC3.out.row.lt i e).2
          have hX4 : w4.heap[w3.heap.size]? = some (.cells #[.int .i64 (kd : Int), .string tx, .int .i64 (j : Int)] 75) := by
            rw [hgrow4.block w3.heap.size (by simp; omega) (fun e => by have := hgne _ e.symm; omega)]
            exact row_alloc (heap_alloc_last w3 _) _
          obtain ⟨_, y0, y1, y2, _, _, _⟩ := tkAt hX4
          have hB4 : Below w.heap.size w w4 := ((HC3.out.low.alloc (Nat.le_of_lt hcl) _).alloc (by simp; omega) _).grown hgrow4 (by have := HZ3.out; omega) (fun i e => by have := (HW3.out.lt i e).1; omega)
          have hM4 : MpAt w4 w.heap.size 12 wdP := World.ownsMap.kept (World.ownsMap.alloc (World.ownsMap.alloc HC3.out.map _) _) hgrow4 (fun e => by have := (HW3.out.lt _ e.symm).1; omega)
          have HSk4 : Hid (Calls Tryz.prog 26 #[.string s, .int .i64 ((j : Int) + (tx.size : Int))] w4 fun e w' => e = .returned (.int .i64 (skipN s.data.toList (j + tx.size) : Nat)) ∧ Below w4.heap.size w4 w') := by
            have := HSk.out (j + tx.size) w4 hjt hB4
            rw [show ((j + tx.size : Nat) : Int) = (j : Int) + (tx.size : Int) by omega] at this
            exact this
          have HB4 : Hid (Below w.heap.size w w4) := hB4
          have HM4 : Hid (MpAt w4 w.heap.size 12 wdP) := hM4
          have HO4 : Hid (w4.ownsRow (w.heap.size + 1) 75 3 (.slice q4 (n + 1) c4) (n + 1) (tkc l ++ [.int .i64 (kd : Int), .string tx, .int .i64 (j : Int)])) := hown4
          clear hgne hX4 hB4 hM4 hown4 hgrow4 HW3 HN3 H13 HZ3
          go_wp2_with (go_at_call 26; fail)
          refine HSk4.out.mono ?_
          rintro e w5 ⟨rfl, hb5⟩
          obtain ⟨k1, k2, k3⟩ := skip_at s.data.toList (j + tx.size) (by rw [HSl.out]; exact hjt)
          have HEnd : Hid (CI w s.data.toList (skipN s.data.toList (j + tx.size)) (n + 1) (l ++ [⟨kd, t, j⟩]) (.slice q4 (n + 1) c4) w5) := by
            have hlen := HC3.out.len
            have hl15 : ¬ l.length = 1500 := by rw [← hlen]; exact h15
            have hmax := HC3.out.max
            refine ⟨?_, by simp [hlen], by simp; omega, ?_, HM4.out.below hb5, HB4.out.trans (hb5.mono HB4.out.size)⟩
            · obtain ⟨f, hf1, hf2⟩ := HC3.out.cut
              obtain ⟨f', rfl⟩ : ∃ f', f = f' + 1 := ⟨f - 1, by omega⟩
              refine ⟨f', ?_, ?_⟩
              · rw [List.length_drop] at hf1 ⊢
                rw [HSl.out] at *
                omega
              · rw [← hf2, HStp.out, if_neg hl15]
            · have := HO4.out.kept (grown_none hb5) (by cases (Value.slice q4 (n + 1) c4).ownBlock <;> simp)
              rw [tkc_snoc]
              show w5.ownsRow _ _ _ _ _ (tkc l ++ [.int .i64 (kd : Int), str t, .int .i64 (j : Int)])
              rw [HTx.out]
              exact this
          have hjn : skipN s.data.toList (j + tx.size) ≤ s.size := by rw [← HSl.out]; exact k2
          have hjn2 : j + tx.size ≤ skipN s.data.toList (j + tx.size) := k3
          clear hb5 k1 k2 k3
          generalize skipN s.data.toList (j + tx.size) = j' at *
          go_wp2
          exact ⟨⟨j', n + 1, _, q4, c4, hjn, rfl, rfl, HEnd⟩, by simp [intOf]; omega⟩
    · obtain rfl : j = s.size := by omega
      have HV : Hid (tokV s.data.toList = .ok (l ++ [⟨3, [], s.size⟩])) := by
        show _ = _
        obtain ⟨f, hf1, hf2⟩ := HC.out.cut
        obtain ⟨f', rfl⟩ : ∃ f', f = f' + 1 := ⟨f - 1, by omega⟩
        rw [← hf2, cutV, if_pos (by rw [List.drop_of_length_le (by rw [HSl.out]; exact Nat.le_refl _)]), HSl.out]
      have hcl := HC.out.lt
      have HW3 : Hid ((wr.alloc (.cells #[.int .i64 3, .string ⟨#[]⟩, .int .i64 (s.size : Int)] 75)).ownsRow (w.heap.size + 1) 75 3 (.slice q n c) n (tkc l)) := HC.out.row.alloc _
      have HN3 : Hid (∀ (i : Nat) (x : Value), ([.int .i64 3, .string ⟨#[]⟩, .int .i64 (s.size : Int)] : List Value)[i]? = some x → (wr.alloc (.cells #[.int .i64 3, .string ⟨#[]⟩, .int .i64 (s.size : Int)] 75)).cell? ((⟨wr.heap.size, 0, none⟩ : Addr).add i) = some x) := World.news_of_block (cs := #[.int .i64 3, .string ⟨#[]⟩, .int .i64 (s.size : Int)]) (t := 75) (fr := (0, 0)) (heap_alloc_last wr _)
      have H13 : Hid (∀ u ∈ ([.int .i64 3, .string ⟨#[]⟩, .int .i64 (s.size : Int)] : List Value), u.oneCell' = true) := fun u hu => by simp at hu; rcases hu with rfl | rfl | rfl <;> rfl
      have HZ3 : Hid (w.heap.size + 1 ≤ (wr.alloc (.cells #[.int .i64 3, .string ⟨#[]⟩, .int .i64 (s.size : Int)] 75)).heap.size) := by show _ ≤ _; simp; omega
      go_wp2_with (at_builtin; refine wpList_append_own _ rfl _ _ 46 rfl (w.heap.size + 1) 75 i0 _ 3 32 Tryz.underlying46 hi0 hz0 hs0 hb0 rfl (by decide) _ n _ rfl HW3.out ⟨wr.heap.size, 0, none⟩ 1 1 [.int .i64 3, .string ⟨#[]⟩, .int .i64 (s.size : Int)] rfl rfl HN3.out H13.out (by unfold maxLen; omega) (by omega) HZ3.out ?_)
      intro v4 w4 hown4 hgrow4 _
      have HO4 : Hid (w4.ownsRow (w.heap.size + 1) 75 3 v4 (n + 1) (tkc l ++ [.int .i64 3, .string ⟨#[]⟩, .int .i64 (s.size : Int)])) := hown4
      have HB4 : Hid (Below w.heap.size w w4) := (HC.out.low.alloc (Nat.le_of_lt hcl) _).grown hgrow4 (by have := HZ3.out; omega) (fun i e => by have := (HW3.out.lt i e).1; omega)
      clear hown4 hgrow4
      go_wp2
      go_ret
      refine ⟨?_, HB4.out⟩
      rw [HV.out]
      refine ⟨v4, rfl, ?_⟩
      have := HO4.out
      rw [HC.out.len] at this
      rw [tkc_snoc, List.length_append]
      exact this
end Go.Proofs.YtpakgaegckkmnaaGreatDoor
