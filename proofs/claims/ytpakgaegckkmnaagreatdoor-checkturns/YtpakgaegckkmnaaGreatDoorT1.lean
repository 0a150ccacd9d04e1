/- Package tree's tokens, walked: run, skip. -/
import Derived.Test.YtpakgaegckkmnaaGreatDoorT0
import Derived.Test.YtpakgaegckkmnaaGreatDoorShelf
import Derived.Shelf.Strings.SlTrimAscii
import Derived.WalkKit
import Derived.Deep.MidRow
import Derived.Lib.IndexMore
namespace Go.Proofs.YtpakgaegckkmnaaGreatDoor
set_option linter.unusedVariables false
set_option linter.unusedSimpArgs false
open Go Go.RowKit

abbrev str (s : By) : Value := .string ⟨s.toArray⟩
theorem ba_inj {a b : ByteArray} (h : a.data.toList = b.data.toList) : a = b := by
  cases a
  cases b
  simp at h
  rw [h]
theorem ret_int {k : IntKind} {a b : Int} (h : a = b) : Ending.returned (.int k a) = .returned (.int k b) := by rw [h]
theorem trim_set (s set : ByteArray) (w : World) (h : set.data.toList.all (fun b => decide (b.toNat < 128)) = true) (hs : set.size < 4294967281) :
    Calls Tryz.prog 59 #[.string s, .string set] w fun e w' => e = .returned (.string ⟨(Lib.trimLeftS s.data.toList set.data.toList).toArray⟩) ∧ Below w.heap.size w w' :=
  Any.strings_TrimLeft_laid Tryz.lays161 (by kernel_rfl) s set w hs (ascii_of_all h)

set_option maxHeartbeats 1000000 in
theorem run_any (s set : ByteArray) (w : World) (h : set.data.toList.all (fun b => decide (b.toNat < 128)) = true) (hs : s.size ≤ 1000000) (hz : set.size < 4294967281) :
    Calls Tryz.prog 41 #[.string s, .string set] w fun e w' => e = .returned (str (runV s.data.toList set.data.toList)) ∧ Below w.heap.size w w' := by
  obtain ⟨t, ht⟩ : ∃ t : ByteArray, t = ⟨(Lib.trimLeftS s.data.toList set.data.toList).toArray⟩ := ⟨_, rfl⟩
  have HT : Hid (Calls Tryz.prog 59 #[.string s, .string set] w fun e w' => e = .returned (.string t) ∧ Below w.heap.size w w') := by rw [ht]; exact trim_set s set w h hz
  have htl : t.data.toList = Lib.trimLeftS s.data.toList set.data.toList := by rw [ht]
  have hle : t.size ≤ s.size := by
    have e1 : t.size = t.data.toList.length := by simp
    have e2 : s.size = s.data.toList.length := by simp
    rw [e1, e2, htl]
    exact (List.dropWhile_sublist _).length_le
  have HR : Hid (s.extract 0 (s.size - t.size) = ⟨(runV s.data.toList set.data.toList).toArray⟩) := by
    refine ba_inj ?_
    rw [Lib.extract_from_zero, ← run_trim]
    have e1 : t.size = t.data.toList.length := by simp
    have e2 : s.size = s.data.toList.length := by simp
    rw [e1, e2, htl]
  clear ht htl h
  go_enter Tryz.func41, Tryz.ntmps41
  go_wp2_with (go_at_call 59; refine HT.out.mono ?_; rintro e w1 ⟨rfl, hb⟩; have HB : Hid (Below w.heap.size w w1) := hb; clear hb)
  go_ret
  exact ⟨by have := HR.out; simp [this], HB.out⟩

theorem ixB_cases (l : By) (c : UInt8) : Lib.indexByte l c = -1 ∨ 0 ≤ Lib.indexByte l c := by
  induction l with
  | nil => exact .inl rfl
  | cons b l ih =>
    rw [Lib.indexByte]
    split
    · exact .inr (by omega)
    · split
      · exact .inl rfl
      · rename_i h
        rcases ih with ih | ih
        · simp [ih] at h
        · exact .inr (by omega)
theorem cut_fst (c : UInt8) : ∀ l : By, (Lib.cut l [c]).1 = l.takeWhile (· != c)
  | [] => rfl
  | b :: l => by
    have ih := cut_fst c l
    unfold Lib.cut at ih ⊢
    rw [Lib.index_one] at ih ⊢
    rw [Lib.indexByte]
    by_cases hb : b = c
    · subst hb
      simp
    · have h1 : ¬ (b == c) = true := by simp [hb]
      have h3 : (b != c) = true := by simpa using hb
      rw [if_neg h1, List.takeWhile_cons, h3, if_pos rfl, ← ih]
      rcases ixB_cases l c with h | h
      · simp [h]
      · have h2 : ¬ (Lib.indexByte l c == -1) = true := by simp; omega
        rw [if_neg h2, if_pos h, if_pos (by omega)]
        simp only
        rw [show (Lib.indexByte l c + 1).toNat = (Lib.indexByte l c).toNat + 1 by omega, List.take_succ_cons]
theorem drop_tw (p : UInt8 → Bool) : ∀ l : By, l.drop (l.takeWhile p).length = l.dropWhile p
  | [] => rfl
  | b :: l => by
    rw [List.takeWhile_cons, List.dropWhile_cons]
    split
    · rw [List.length_cons, List.drop_succ_cons, drop_tw p l]
    · rfl

structure Env (w : World) : Prop where
  max : ∃ m, w.cell? ⟨3, 0, none⟩ = some (.int .i64 m)
  marks : w.rangeAt 1 0 (marksL.map str)
  pairs : w.rangeAt 2 0 (pairsL.flatMap fun x => [str x.1, .int .i64 (x.2 : Int)])
  syn : ∃ tp p, w.var? Tryz.prog "strconv.ErrSyntax" = some #[.iface tp p]
  rng : ∃ tp p, w.var? Tryz.prog "strconv.ErrRange" = some #[.iface tp p]
theorem var_below {w w' : World} {name : String} {cs : Array Value} (h : w.var? Tryz.prog name = some cs) (hb : Below w.heap.size w w') : w'.var? Tryz.prog name = some cs := by
  unfold World.var? at *
  cases hg : Tryz.prog.globalNamed name with
  | none => simp [hg] at h
  | some g =>
    simp only [hg, Option.bind_some] at h ⊢
    have hlt : g < w.heap.size := by
      rcases Nat.lt_or_ge g w.heap.size with h1 | h1
      · exact h1
      · rw [Array.getElem?_eq_none h1] at h; simp at h
    rw [hb.block g hlt]
    exact h
theorem Env.below {w w' : World} (h : Env w) (hb : Below w.heap.size w w') : Env w' := by
  obtain ⟨m, hm⟩ := h.max
  obtain ⟨a, b, hs⟩ := h.syn
  obtain ⟨c, d, hr⟩ := h.rng
  refine ⟨⟨m, (hb.cell (p := ⟨3, 0, none⟩) (World.block_lt_of_cell? w _ hm)).trans hm⟩, fun j v hv => ?_, fun j v hv => ?_, ⟨a, b, var_below hs hb⟩, ⟨c, d, var_below hr hb⟩⟩
  · have := h.marks j v hv
    exact (hb.cell (World.block_lt_of_cell? w _ this)).trans this
  · have := h.pairs j v hv
    exact (hb.cell (World.block_lt_of_cell? w _ this)).trans this

/-- Where the next token begins, from a place on. -/
def skipN (s : By) (k : Nat) : Nat := s.length - (skipS false (s.drop k)).length

set_option maxHeartbeats 2000000 in
theorem skip_any (s : ByteArray) (k : Nat) (w : World) (he : Env w) (hk : k ≤ s.size) (hs : s.size ≤ 1000000) :
    Calls Tryz.prog 26 #[.string s, .int .i64 k] w fun e w' => e = .returned (.int .i64 (skipN s.data.toList k : Nat)) ∧ Below w.heap.size w w' := by
  have hsl : s.data.toList.length = s.size := by simp
  have HE : Hid (∀ w', Below w.heap.size w w' → Env w') := fun w' hb => he.below hb
  clear he
  go_enter Tryz.func26, Tryz.ntmps26
  go_wp2_with fail
  go_loopw [1] (fun i wr => ∃ j : Nat, j ≤ s.size ∧ i = .int .i64 j ∧ Hid (skipN s.data.toList j = skipN s.data.toList k) ∧ Hid (Below w.heap.size w wr)) (fun i _ => s.size - (intOf i).toNat)
  case atStart => exact ⟨k, hk, rfl, rfl, Below.refl _ _⟩
  case round =>
    obtain ⟨j, hj, rfl, HS, HB⟩ := hrel
    by_cases hlt : j < s.size
    · have hd : s.data.toList.drop j = s[j] :: s.data.toList.drop (j + 1) := by
        rw [List.drop_eq_getElem_cons (by omega)]
        rfl
      have HD : Hid (s.data.toList.drop j = s[j] :: s.data.toList.drop (j + 1)) := hd
      clear hd hsl
      by_cases hb : s[j] = 32 ∨ s[j] = 9 ∨ s[j] = 10
      · have HN : Hid (skipN s.data.toList (j + 1) = skipN s.data.toList k) := by
          show _ = _
          rw [← HS.out]
          unfold skipN
          rw [HD.out, skipS, if_pos hb]
        rcases hb with hb | hb | hb
        · have e1 : (s[j].toNat : Int) = 32 := by rw [hb]; rfl
          clear hb
          go_wp2
          exact ⟨⟨j + 1, by omega, by go_num, HN, HB⟩, by simp [intOf]; omega⟩
        · have e1 : (s[j].toNat : Int) = 9 := by rw [hb]; rfl
          clear hb
          go_wp2
          exact ⟨⟨j + 1, by omega, by go_num, HN, HB⟩, by simp [intOf]; omega⟩
        · have e1 : (s[j].toNat : Int) = 10 := by rw [hb]; rfl
          clear hb
          go_wp2
          exact ⟨⟨j + 1, by omega, by go_num, HN, HB⟩, by simp [intOf]; omega⟩
      · have hb1 : ¬ s[j] = 32 := fun e => hb (.inl e)
        have hb2 : ¬ s[j] = 9 := fun e => hb (.inr (.inl e))
        have hb3 : ¬ s[j] = 10 := fun e => hb (.inr (.inr e))
        have n1 : ((s[j].toNat : Int) == 32) = false := by
          have : s[j].toNat ≠ 32 := fun e => hb1 (UInt8.toNat_inj.1 e)
          simp; omega
        have n2 : ((s[j].toNat : Int) == 9) = false := by
          have : s[j].toNat ≠ 9 := fun e => hb2 (UInt8.toNat_inj.1 e)
          simp; omega
        have n3 : ((s[j].toNat : Int) == 10) = false := by
          have : s[j].toNat ≠ 10 := fun e => hb3 (UInt8.toNat_inj.1 e)
          simp; omega
        by_cases h35 : s[j] = 35
        · obtain ⟨mx, hmx⟩ := (HE.out wr HB.out).max
          have hex : (s.extract j s.size).data.toList = s.data.toList.drop j := Lib.extract_to_end s j
          obtain ⟨ln, hln⟩ : ∃ ln : ByteArray, ln = ⟨((s.data.toList.drop j).takeWhile (· != 10)).toArray⟩ := ⟨_, rfl⟩
          have hls : ln.size = ((s.data.toList.drop j).takeWhile (· != 10)).length := by rw [hln]; simp [ByteArray.size]
          have hl1 : 1 ≤ ln.size := by
            rw [hls, HD.out, List.takeWhile_cons, if_pos (by rw [h35]; decide)]
            simp
          have hl2 : j + ln.size ≤ s.size := by
            rw [hls]
            have := (List.takeWhile_prefix (fun x : UInt8 => x != 10) (l := s.data.toList.drop j)).length_le
            rw [List.length_drop] at this
            have hsl : s.data.toList.length = s.size := by simp
            omega
          have HN : Hid (skipN s.data.toList (j + ln.size) = skipN s.data.toList k) := by
            show _ = _
            rw [← HS.out]
            unfold skipN
            have e1 : s.data.toList.drop (j + ln.size) = (s.data.toList.drop j).dropWhile (· != 10) := by
              rw [← List.drop_drop, hls, drop_tw]
            have e2 : (s[j] != 10) = true := by simp [hb3]
            rw [e1, HD.out, skipS, if_neg hb, if_pos h35, skip_remark, List.dropWhile_cons, e2, if_pos rfl]
          have HC : Hid (Calls Tryz.prog 40 #[.string (s.extract j s.size), .string ⟨#[10]⟩] wr fun e w' => (∃ (x : ByteArray) (b : Bool), e = .returned (.tuple #[.string ln, .string x, .bool b])) ∧ Below w.heap.size w w') := by
            have hz : (s.extract j s.size).size < 4294967281 := by
              have e : (s.extract j s.size).size = (s.extract j s.size).data.toList.length := by simp
              have hsl : s.data.toList.length = s.size := by simp
              rw [e, hex, List.length_drop]; omega
            refine (Tryz.strings_Cut (s.extract j s.size) ⟨#[10]⟩ mx wr hz hmx).mono ?_
            rintro e w' ⟨rfl, n, rfl⟩
            have e3 : (Lib.cut (s.extract j s.size).data.toList [10]).1 = (s.data.toList.drop j).takeWhile (· != 10) := by rw [hex, cut_fst]
            exact ⟨⟨⟨(Lib.cut (s.extract j s.size).data.toList [10]).2.1.toArray⟩, (Lib.cut (s.extract j s.size).data.toList [10]).2.2, by rw [hln, ← e3]⟩, ⟨HB.out.os, HB.out.tape, HB.out.output, HB.out.size, HB.out.block⟩⟩
          have e1 : (s[j].toNat : Int) = 35 := by rw [h35]; rfl
          clear hb hb1 hb2 hb3 h35 hex hln hls n1 n2 n3 hmx
          have hjs : j ≤ s.size := by omega
          go_wp2_with (go_at_call 40; refine HC.out.mono ?_; rintro e w1 ⟨⟨x, b, rfl⟩, hb⟩; have HB1 : Hid (Below w.heap.size w w1) := hb; clear hb)
          exact ⟨⟨j + ln.size, by omega, by go_num, HN, HB1⟩, by simp [intOf]; omega⟩
        · have n4 : ((s[j].toNat : Int) == 35) = false := by
            have : s[j].toNat ≠ 35 := fun e => h35 (UInt8.toNat_inj.1 e)
            simp; omega
          have HN : Hid (j = skipN s.data.toList k) := by
            show _ = _
            rw [← HS.out]
            unfold skipN
            have hsl : s.data.toList.length = s.size := by simp
            rw [HD.out, skipS, if_neg hb, if_neg h35, ← HD.out, List.length_drop]
            omega
          clear hb hb1 hb2 hb3 h35
          go_wp2
          go_ret
          exact ⟨ret_int (by rw [← HN.out]), HB.out⟩
    · have HN : Hid (j = skipN s.data.toList k) := by
        show _ = _
        rw [← HS.out]
        unfold skipN
        rw [List.drop_of_length_le (by omega)]
        simp [skipS]
        omega
      clear hsl
      go_wp2
      go_ret
      exact ⟨ret_int (by rw [← HN.out]), HB.out⟩
end Go.Proofs.YtpakgaegckkmnaaGreatDoor
