/- The document's small readers, walked. The lines of a text, one by one, and what Assemble has behind each of them. Plain: what the document's ReadInst splits a line into, and package asm's reading of it. The document's own answer: its small functions, walked: in, has, signs. The document's own table of forms, walked. -/
import Derived.Test.YtjjjdplgdlaihaaGreatDoorME
import Derived.Test.YtjjjdplgdlaihaaGreatDoorSH2
import Derived.Lib.ItoaLen
import Derived.Test.YtjjjdplgdlaihaaGreatDoorMC
import Derived.Lib.SplitLaws
import Derived.Test.YtjjjdplgdlaihaaGreatDoorMB
namespace Go.Proofs.YtjjjdplgdlaihaaGreatDoor
set_option linter.unusedVariables false
set_option linter.unusedSimpArgs false
open Go Go.RowKit

def inV (n a b : Int) : Bool := decide (a ≤ n) && decide (n ≤ b)
theorem in_doc (n a b : Int) (w : World) : Calls Tryz.prog 31 #[.int .i64 n, .int .i64 a, .int .i64 b] w fun e w' => e = .returned (.bool (inV n a b)) ∧ w' = w := by
  by_cases h1 : a ≤ n
  · by_cases h2 : n ≤ b
    · have e : inV n a b = true := by simp [inV, h1, h2]
      rw [e]
      go_enter Tryz.func31, Tryz.ntmps31
      go_wp2
      go_ret
      exact ⟨rfl, rfl⟩
    · have e : inV n a b = false := by simp [inV, h1, h2]
      rw [e]
      go_enter Tryz.func31, Tryz.ntmps31
      go_wp2
      go_ret
      exact ⟨rfl, rfl⟩
  · have e : inV n a b = false := by simp [inV, h1]
    rw [e]
    go_enter Tryz.func31, Tryz.ntmps31
    go_wp2
    go_ret
    exact ⟨rfl, rfl⟩

set_option maxHeartbeats 2000000 in
theorem whole_yes (s : ByteArray) (v : Int) (w : World) (he : Env w) (hsz : s.size ≤ 281474976710656) (h : numV s.data.toList = some v) :
    Calls Tryz.prog 55 #[.string s] w fun e w' => e = .returned (.tuple #[.int .i64 v, .bool true]) ∧ Below w.heap.size w w' := by
  obtain ⟨h1, h2⟩ := numV_split h
  obtain ⟨v0, v1⟩ := numV_in h
  have hs : (⟨(Lib.itoa v).toArray⟩ : ByteArray) = s := by rw [h2]
  have HP : Hid (Calls Tryz.prog 87 #[.string s, .int .i64 10, .int .i64 64] w fun e w' => e = .returned (.tuple #[.int .i64 v, .nilIface]) ∧ Below w.heap.size w w') :=
    (Tryz.strconv_ParseInt_10_at64_ok s (by omega) v h1 w).mono fun e w' ⟨a, b⟩ => ⟨a, by
      rcases b with b | ⟨t, b⟩
      · rw [b]; exact Below.refl _ _
      · rw [b]; exact Lib.bytesWorld_below _ _ _⟩
  have HF : Hid (∀ w', Below w.heap.size w w' → Calls Tryz.prog 34 #[.int .i64 v, .int .i64 10] w' fun e w'' => e = .returned (.string s) ∧ Below w.heap.size w w'') := fun w' hb => by
    have := Tryz.strconv_FormatInt_10 v v0 v1 w' (he.below hb).pow
    rw [hs] at this
    exact this.mono fun e w'' ⟨a, k, os, b⟩ => ⟨a, by rw [b]; exact hb.trans (Lib.below_grow _ _ hb.size _ _)⟩
  clear h h1 h2 hs he
  go_enter Tryz.func55, Tryz.ntmps55
  go_wp2_with (first
    | (go_at_call 87; refine HP.out.mono ?_; rintro e w1 ⟨rfl, hb⟩; have HB : Hid (Below w.heap.size w w1) := hb; clear hb)
    | (go_at_call 34; refine (HF.out _ HB.out).mono ?_; rintro e w2 ⟨rfl, hb⟩; have HB2 : Hid (Below w.heap.size w w2) := hb; clear hb))
  go_ret2
  exact ⟨rfl, HB2.out⟩

set_option maxHeartbeats 2000000 in
theorem whole_no (s : ByteArray) (w : World) (he : Env w) (hsz : s.size ≤ 281474976710656) (h : numV s.data.toList = none) :
    Calls Tryz.prog 55 #[.string s] w fun e w' => (∃ x : Int, e = .returned (.tuple #[.int .i64 x, .bool false])) ∧ Below w.heap.size w w' := by
  rcases hp : Lib.parseIntB 64 s.data.toList with v | _ | _
  · obtain ⟨v0, v1⟩ := parse_in hp
    have hn : ¬ (⟨(Lib.itoa v).toArray⟩ : ByteArray) = s := fun e => by
      have : s.data.toList = Lib.itoa v := by rw [← e]
      unfold numV at h
      rw [hp] at h
      simp [this] at h
    have HP : Hid (Calls Tryz.prog 87 #[.string s, .int .i64 10, .int .i64 64] w fun e w' => e = .returned (.tuple #[.int .i64 v, .nilIface]) ∧ Below w.heap.size w w') :=
      (Tryz.strconv_ParseInt_10_at64_ok s (by omega) v hp w).mono fun e w' ⟨a, b⟩ => ⟨a, by
        rcases b with b | ⟨t, b⟩
        · rw [b]; exact Below.refl _ _
        · rw [b]; exact Lib.bytesWorld_below _ _ _⟩
    have HF : Hid (∀ w', Below w.heap.size w w' → Calls Tryz.prog 34 #[.int .i64 v, .int .i64 10] w' fun e w'' => e = .returned (.string ⟨(Lib.itoa v).toArray⟩) ∧ Below w.heap.size w w'') := fun w' hb =>
      (Tryz.strconv_FormatInt_10 v v0 v1 w' (he.below hb).pow).mono fun e w'' ⟨a, k, os, b⟩ => ⟨a, by rw [b]; exact hb.trans (Lib.below_grow _ _ hb.size _ _)⟩
    clear h hp he
    generalize (⟨(Lib.itoa v).toArray⟩ : ByteArray) = b at *
    have hn2 := bytes_neq hn
    clear hn
    go_enter Tryz.func55, Tryz.ntmps55
    go_wp2_with (first
      | (go_at_call 87; refine HP.out.mono ?_; rintro e w1 ⟨rfl, hb⟩; have HB : Hid (Below w.heap.size w w1) := hb; clear hb)
      | (go_at_call 34; refine (HF.out _ HB.out).mono ?_; rintro e w2 ⟨rfl, hb⟩; have HB2 : Hid (Below w.heap.size w w2) := hb; clear hb))
    go_ret2
    exact ⟨⟨v, by simp [hn2]⟩, HB2.out⟩
  · obtain ⟨tp, q, hv⟩ := he.syn
    have HP : Hid (Calls Tryz.prog 87 #[.string s, .int .i64 10, .int .i64 64] w fun e w' => ∃ N, e = .returned (.tuple #[.int .i64 0, .iface 200 (.pointer (some ⟨N, 0, none⟩))]) ∧ Below w.heap.size w w') :=
      (Tryz.strconv_ParseInt_10_at64_syntax_var s hsz hp tp q w hv).mono fun e w' ⟨N, a, _, _, b⟩ => ⟨N, a, b⟩
    clear h hp he hv
    go_enter Tryz.func55, Tryz.ntmps55
    go_wp2_with (go_at_call 87; refine HP.out.mono ?_; rintro e w1 ⟨N, rfl, hb⟩; have HB : Hid (Below w.heap.size w w1) := hb; clear hb)
    go_ret2
    exact ⟨⟨_, rfl⟩, HB.out⟩
  · obtain ⟨tp, q, hv⟩ := he.rng
    have HP : Hid (Calls Tryz.prog 87 #[.string s, .int .i64 10, .int .i64 64] w fun e w' => ∃ N, e = .returned (.tuple #[.int .i64 (Lib.intSat 64 s.data.toList), .iface 200 (.pointer (some ⟨N, 0, none⟩))]) ∧ Below w.heap.size w w') :=
      (Tryz.strconv_ParseInt_10_at64_range_var s hsz hp tp q w hv).mono fun e w' ⟨N, a, _, _, b⟩ => ⟨N, a, b⟩
    clear h hp he hv
    generalize Lib.intSat 64 s.data.toList = z at *
    go_enter Tryz.func55, Tryz.ntmps55
    go_wp2_with (go_at_call 87; refine HP.out.mono ?_; rintro e w1 ⟨N, rfl, hb⟩; have HB : Hid (Below w.heap.size w w1) := hb; clear hb)
    go_ret2
    exact ⟨⟨_, rfl⟩, HB.out⟩

theorem ba_inj {a b : ByteArray} (h : a.data.toList = b.data.toList) : a = b := by
  cases a
  cases b
  simp at h
  rw [h]

/-- A register is x and its number. -/
theorem rgsV_some {s : By} {r : Int} (h : rgsV s = some r) : s = 120 :: Lib.itoa r ∧ 0 ≤ r ∧ r < 32 := by
  unfold rgsV at h
  split at h
  · cases h
  · split at h
    · rename_i c t hc
      subst hc
      split at h
      · rename_i n hn
        split at h
        · rename_i hr
          injection h with h
          subst h
          exact ⟨by rw [(numV_split hn).2], hr.1, hr.2⟩
        · cases h
      · cases h
    · cases h
theorem dec_itoa (k : Nat) : Lib.decDigits k = Lib.itoa (k : Int) := by
  unfold Lib.itoa
  rw [if_neg (by omega)]
  simp
theorem itoa_inj {a b : Int} (ha : I64 a) (hb : I64 b) (h : Lib.itoa a = Lib.itoa b) : a = b := by
  have h1 := parse_itoa a ha.1 ha.2
  have h2 := parse_itoa b hb.1 hb.2
  rw [h, h2] at h1
  injection h1 with h1
  exact h1.symm

set_option maxRecDepth 100000 in
set_option maxHeartbeats 2000000 in
theorem reg_doc (s : ByteArray) (w : World) :
    Calls Tryz.prog 54 #[.string s] w fun e w' => e = .returned (.tuple #[.int .i64 ((rgsV s.data.toList).getD 0), .bool (rgsV s.data.toList).isSome]) ∧ w' = w := by
  have HI : Hid (∀ (k : Nat), k < 32 → Calls Tryz.prog 35 #[.int .i64 k] w fun e w' => e = .returned (.string ⟨(Lib.itoa (k : Int)).toArray⟩) ∧ w' = w) := fun k hk => by
    have := Tryz.strconv_Itoa_small k (by omega) w
    rw [dec_itoa] at this
    exact this
  go_enter Tryz.func54, Tryz.ntmps54
  go_wp2_with fail
  go_loopw [5] (fun i wr => ∃ k : Nat, k ≤ 32 ∧ i = .int .i64 k ∧ wr = w ∧ Hid (∀ j : Nat, j < k → s.data.toList ≠ 120 :: Lib.itoa (j : Int))) (fun i _ => 32 - (intOf i).toNat)
  case atStart => exact ⟨0, by omega, rfl, rfl, fun j hj => by omega⟩
  case round =>
    obtain ⟨k, hk, rfl, rfl, hno⟩ := hrel
    by_cases hlt : k < 32
    · have hlt' : (k : Int) < 32 := by omega
      obtain ⟨X, hX⟩ : ∃ X : ByteArray, X = ⟨(Lib.itoa (k : Int)).toArray⟩ := ⟨_, rfl⟩
      have hXs : X.size ≤ 50 := by
        have := Lib.itoa_length_le (k : Int) (by omega) (by omega)
        rw [hX]
        simp [ByteArray.size]
        omega
      have HIk : Hid (Calls Tryz.prog 35 #[.int .i64 k] wr fun e w' => e = .returned (.string X) ∧ w' = wr) := by rw [hX]; exact HI.out k hlt
      by_cases heq : s.data.toList = 120 :: Lib.itoa (k : Int)
      · have hs : (⟨#[120]⟩ : ByteArray) ++ X = s := ba_inj (by rw [heq, hX]; simp)
        have hv : rgsV s.data.toList = some (k : Int) := by rw [heq]; exact rgsV_itoa k (by omega) hlt'
        have HV : Hid (rgsV s.data.toList = some (k : Int)) := hv
        clear hX heq hv hno
        subst hs
        go_wp2_with (go_at_call 35; refine HIk.out.mono ?_; rintro e w' ⟨rfl, rfl⟩)
        go_ret2
        rw [HV.out]
        exact ⟨rfl, rfl⟩
      · have hs : ¬ s = (⟨#[120]⟩ : ByteArray) ++ X := fun e => heq (by rw [e, hX]; simp)
        have hs2 := bytes_neq hs
        have HN : Hid (∀ j : Nat, j < k + 1 → s.data.toList ≠ 120 :: Lib.itoa (j : Int)) := fun j hj => by
          by_cases e : j = k
          · rw [e]; exact heq
          · exact hno.out j (by omega)
        clear hX heq hno hs
        go_wp2_with (go_at_call 35; refine HIk.out.mono ?_; rintro e w' ⟨rfl, rfl⟩)
        exact ⟨⟨k + 1, by omega, by go_num, trivial, HN.out⟩, by simp [intOf]; omega⟩
    · obtain rfl : k = 32 := by omega
      have hv : rgsV s.data.toList = none := by
        cases hr : rgsV s.data.toList with
        | none => rfl
        | some r =>
          obtain ⟨h1, h2, h3⟩ := rgsV_some hr
          refine absurd ?_ (hno.out r.toNat (by omega))
          rw [h1]
          congr 2
          omega
      have HV : Hid (rgsV s.data.toList = none) := hv
      clear hv hno
      go_wp2
      go_ret2
      rw [HV.out]
      exact ⟨rfl, rfl⟩
end Go.Proofs.YtjjjdplgdlaihaaGreatDoor

namespace Go.Proofs.YtjjjdplgdlaihaaGreatDoor
open Go

/-- A line with its number. -/
abbrev Ln := { x : Nat × ByteArray // x.1 < 4294967281 ∧ x.2.size < 4294967281 }
def lnEnc (x : Ln) : Array Value := #[.int .i64 (x.1.1 : Int), .string x.1.2]
def lnAt (s : By) (k : Nat) : Ln :=
  if h : k < 4294967281 ∧ (trimV ((splitC 10 s).getD k [])).length < 4294967281 then ⟨(k, ⟨(trimV ((splitC 10 s).getD k [])).toArray⟩), h.1, by simpa [ByteArray.size] using h.2⟩ else ⟨(0, ⟨#[]⟩), by decide⟩
def upto (s : By) (k : Nat) : List Ln := (List.range k).map (lnAt s)
theorem upto_succ (s : By) (k : Nat) : upto s (k + 1) = upto s k ++ [lnAt s k] := by simp [upto, List.range_succ]
theorem upto_length (s : By) (k : Nat) : (upto s k).length = k := by simp [upto]
theorem upto_take (s : By) (n k : Nat) (h : k ≤ n) : upto s k <+: upto s n := by
  refine ⟨(List.range' k (n - k)).map (lnAt s), ?_⟩
  unfold upto
  rw [← List.map_append, List.range_eq_range', List.range_eq_range']
  have e := List.range'_append_1 (s := 0) (m := k) (n := n - k)
  rw [Nat.zero_add] at e
  rw [e]
  congr 2
  omega

theorem split_len (c : UInt8) : ∀ s : By, (splitC c s).length ≤ s.length + 1
  | [] => by simp [splitC]
  | x :: s => by
    have := split_len c s
    rw [splitC]
    split
    · simp; omega
    · split
      · simp
      · rename_i h; rw [h] at this; simp at this ⊢; omega
theorem split_mem (c : UInt8) : ∀ (s : By) (l : By), l ∈ splitC c s → l.length ≤ s.length
  | [], l, h => by simp [splitC] at h; subst h; simp
  | x :: s, l, h => by
    have ih := split_mem c s
    rw [splitC] at h
    split at h
    · simp at h
      rcases h with rfl | h
      · simp
      · have := ih l h; simp; omega
    · split at h
      · simp at h; subst h; simp
      · rename_i a t hs
        rw [hs] at ih
        simp at h
        rcases h with rfl | h
        · have := ih a (by simp); simp; omega
        · have := ih l (by simp [h]); simp; omega
theorem trimV_len (s : By) : (trimV s).length ≤ s.length := by
  unfold trimV
  refine Nat.le_trans (List.dropWhile_sublist _).length_le ?_
  rw [List.length_reverse]
  exact Nat.le_trans (List.dropWhile_sublist _).length_le (by simp)

theorem lnAt_is (s : By) (hs : s.length < 4294967280) (k : Nat) (hk : k < (splitC 10 s).length) : (lnAt s k).1 = (k, ⟨(trimV (splitC 10 s)[k]).toArray⟩) := by
  have h1 := split_len 10 s
  have h2 := split_mem 10 s _ (List.getElem_mem hk)
  have h3 := trimV_len (splitC 10 s)[k]
  have e : (splitC 10 s).getD k [] = (splitC 10 s)[k] := by rw [List.getD_eq_getElem?_getD, List.getElem?_eq_getElem hk]; rfl
  unfold lnAt
  rw [dif_pos ⟨by omega, by rw [e]; omega⟩]
  simp only [e]

/-- What is had behind a line. -/
abbrev St := Except (Int × Nat) (Drafts × Places)
def stepV (st : St) (k : Nat) (l : By) : St :=
  match st with
  | .error e => .error e
  | .ok (ds, ps) =>
    if l = [] then .ok (ds, ps)
    else if l.getLast? = some 58 then
      (if nameV l.dropLast = false then .error (3, k)
       else if (ps.lookup l.dropLast).isSome then .error (9, k)
       else .ok (ds, (l.dropLast, ds.length) :: ps))
    else
      match readV l with
      | none => .error (3, k)
      | some d => .ok (ds ++ [(d, k)], ps)
def stV (l : List Ln) : St := l.foldl (fun st x => stepV st x.1.1 x.1.2.data.toList) (.ok ([], []))
theorem stV_snoc (l : List Ln) (x : Ln) : stV (l ++ [x]) = stepV (stV l) x.1.1 x.1.2.data.toList := by simp [stV]

def foldE : List By → Nat → St → St
  | [], _, st => st
  | l :: ls, k, st => foldE ls (k + 1) (stepV st k l)
theorem foldE_error (e : Int × Nat) : ∀ (ls : List By) (k : Nat), foldE ls k (.error e) = .error e
  | [], _ => rfl
  | _ :: ls, k => by rw [foldE, stepV]; exact foldE_error e ls (k + 1)
theorem foldE_snoc (l : By) : ∀ (ls : List By) (k : Nat) (st : St), foldE (ls ++ [l]) k st = stepV (foldE ls k st) (k + ls.length) l
  | [], _, _ => rfl
  | x :: ls, k, st => by
    rw [List.cons_append, foldE, foldE_snoc l ls (k + 1), foldE, List.length_cons]
    congr 1
    omega
theorem asmL_fold : ∀ (ls : List By) (k : Nat) (ds : Drafts) (ps : Places), asmL ls k ds ps = foldE ls k (.ok (ds, ps))
  | [], _, _, _ => rfl
  | l :: ls, k, ds, ps => by
    rw [asmL, foldE, stepV]
    split
    · exact asmL_fold ls _ _ _
    · split
      · split
        · rw [foldE_error]
        · split
          · rw [foldE_error]
          · exact asmL_fold ls _ _ _
      · cases readV l with
        | none => dsimp only; rw [foldE_error]
        | some d => exact asmL_fold ls _ _ _
theorem st_take (s : By) (hs : s.length < 4294967280) : ∀ k, k ≤ (splitC 10 s).length → stV (upto s k) = foldE ((linesV s).take k) 0 (.ok ([], []))
  | 0, _ => rfl
  | k + 1, h => by
    have hl : (linesV s).length = (splitC 10 s).length := by simp [linesV]
    rw [upto_succ, stV_snoc, st_take s hs k (by omega), List.take_succ_eq_append_getElem (by omega), foldE_snoc, lnAt_is s hs k (by omega)]
    congr 1
    · simp; omega
    · simp [linesV]
theorem st_all (s : By) (hs : s.length < 4294967280) : stV (upto s (splitC 10 s).length) = asmL (linesV s) 0 [] [] := by
  rw [st_take s hs _ (Nat.le_refl _), asmL_fold]
  congr 1
  have hl : (linesV s).length = (splitC 10 s).length := by simp [linesV]
  rw [← hl, List.take_length]

/-- A text cut once. -/
theorem split_cut : ∀ s : By, splitC 10 s = (cutC 10 s).1 :: (if (cutC 10 s).2.2 then splitC 10 (cutC 10 s).2.1 else [])
  | [] => rfl
  | x :: s => by
    rw [splitC, cutC]
    by_cases h : x = 10
    · rw [if_pos h, if_pos h]; rfl
    · rw [if_neg h, if_neg h, split_cut s]
end Go.Proofs.YtjjjdplgdlaihaaGreatDoor

namespace Go.Proofs.YtjjjdplgdlaihaaGreatDoor
set_option linter.unusedVariables false
set_option linter.unusedSimpArgs false
open Go

theorem jx_ne (c b : UInt8) (l : By) (h : b ≠ c) : Lib.index (b :: l) [c] = if Lib.index l [c] == -1 then -1 else Lib.index l [c] + 1 := by
  have hp : ([c] : By).isPrefixOf (b :: l) = false := by simp [List.isPrefixOf, Ne.symm h]
  rw [Lib.index, hp]
  simp
theorem jx_eq (c : UInt8) (l : By) : Lib.index (c :: l) [c] = ((0 : Nat) : Int) := by rw [Lib.index]; simp [List.isPrefixOf]
def consH (b : UInt8) : List By → List By
  | [] => [[b]]
  | p :: ps => (b :: p) :: ps
theorem spl_ne (c b : UInt8) (h : b ≠ c) : ∀ (k : Nat) (l : By), Lib.splitK [c] 0 k (b :: l) = consH b (Lib.splitK [c] 0 k l)
  | 0, l => rfl
  | k + 1, l => by
    by_cases hm : Lib.index l [c] = -1
    · have h1 : Lib.index (b :: l) [c] = -1 := by rw [jx_ne c b l h, if_pos (by simp [hm])]
      rw [Lib.splitK, Lib.splitK, if_pos (by simp [h1]), if_pos (by simp [hm])]
      rfl
    · have hge := Lib.index_ge l [c]
      obtain ⟨j, hj⟩ : ∃ j : Nat, Lib.index l [c] = j := ⟨(Lib.index l [c]).toNat, by omega⟩
      have h1 : Lib.index (b :: l) [c] = ((j + 1 : Nat) : Int) := by
        rw [jx_ne c b l h, if_neg (by simp [hj]), hj]
        omega
      rw [Lib.splitK, Lib.splitK, if_neg (by rw [h1]; simp; omega), if_neg (by rw [hj]; simp), h1, hj]
      simp [consH]
theorem spl_eq (c : UInt8) (k : Nat) (l : By) : Lib.splitK [c] 0 (k + 1) (c :: l) = [] :: Lib.splitK [c] 0 k l := by
  rw [Lib.splitK, jx_eq, if_neg (by decide)]
  simp
theorem spl_is (c : UInt8) : ∀ s : By, Lib.splitK [c] 0 (Lib.count s [c]) s = splitC c s
  | [] => by rw [Lib.count_one]; rfl
  | b :: l => by
    have ih := spl_is c l
    rw [splitC]
    by_cases h : b = c
    · subst h
      rw [Lib.count_cons_eq, Nat.add_comm, spl_eq, ih, if_pos rfl]
    · rw [Lib.count_cons_ne b c l h, spl_ne c b h, ih, if_neg h]
      unfold consH
      rfl
/-- The parts that strings.Split lays. -/
theorem splitB_is (c : UInt8) (s : ByteArray) : (Lib.splitB ⟨#[c]⟩ 0 (Lib.countB s ⟨#[c]⟩) s).map (·.data.toList) = splitC c s.data.toList := by
  rw [Lib.splitB_data]
  exact spl_is c s.data.toList
theorem splitB_len (c : UInt8) (s : ByteArray) : Lib.countB s ⟨#[c]⟩ + 1 = (splitC c s.data.toList).length := by
  rw [← splitB_is, List.length_map, Lib.splitB_all ⟨#[c]⟩ (Nat.le_refl 1) 0 _ s rfl]

theorem split_cut' (c : UInt8) : ∀ s : By, splitC c s = (cutC c s).1 :: (if (cutC c s).2.2 then splitC c (cutC c s).2.1 else [])
  | [] => rfl
  | x :: s => by
    rw [splitC, cutC]
    by_cases h : x = c
    · rw [if_pos h, if_pos h]; rfl
    · rw [if_neg h, if_neg h, split_cut' c s]
theorem cut_none (c : UInt8) : ∀ s : By, (cutC c s).2.2 = false → (cutC c s).2.1 = []
  | [], _ => rfl
  | x :: s, h => by
    rw [cutC] at h ⊢
    by_cases hx : x = c
    · rw [if_pos hx] at h; cases h
    · rw [if_neg hx] at h ⊢
      exact cut_none c s h

/-- Parts read one by one. -/
def foldT : By → List By → Dr → Option Dr
  | [], [], d => some d
  | k :: ks, p :: ps, d => (takeV k p d).bind (foldT ks ps)
  | _, _, _ => none
theorem parts_fold : ∀ (ks : By) (k : UInt8) (rest : By) (d : Dr), partsV (k :: ks) rest d = foldT (k :: ks) (splitC 44 rest) d
  | [], k, rest, d => by
    rw [partsV, split_cut' 44 rest, foldT]
    cases hc : (cutC 44 rest).2.2 with
    | false =>
      have h0 := cut_none 44 rest hc
      simp only [List.isEmpty_nil, Bool.not_true, if_pos]
      cases ht : takeV k (cutC 44 rest).1 d with
      | none => rfl
      | some d' => simp [partsV, h0, foldT]
    | true =>
      have hne := splitC_ne 44 (cutC 44 rest).2.1
      cases hs : splitC 44 (cutC 44 rest).2.1 with
      | nil => exact absurd hs hne
      | cons p ps =>
        cases ht : takeV k (cutC 44 rest).1 d with
        | none => simp
        | some d' => simp [foldT, hs]
  | k2 :: ks, k, rest, d => by
    rw [partsV, split_cut' 44 rest, foldT]
    cases hc : (cutC 44 rest).2.2 with
    | false =>
      cases ht : takeV k (cutC 44 rest).1 d with
      | none => simp
      | some d' => simp [foldT]
    | true =>
      simp only [List.isEmpty_cons, Bool.not_false, if_pos]
      cases ht : takeV k (cutC 44 rest).1 d with
      | none => rfl
      | some d' =>
        simp only [Option.bind_some]
        rw [parts_fold ks k2 _ d']
theorem fold_len : ∀ (ks : By) (ps : List By) (d : Dr), ks.length ≠ ps.length → foldT ks ps d = none
  | [], [], _, h => absurd rfl h
  | [], _ :: _, _, _ => rfl
  | _ :: _, [], _, _ => rfl
  | k :: ks, p :: ps, d, h => by
    rw [foldT]
    cases takeV k p d with
    | none => rfl
    | some d' => exact fold_len ks ps d' (by simpa using h)
/-- So far. -/
theorem fold_take : ∀ (ks : By) (ps : List By) (d : Dr) (i : Nat) (k : UInt8) (p : By), ks[i]? = some k → ps[i]? = some p → foldT (ks.take (i + 1)) (ps.take (i + 1)) d = (foldT (ks.take i) (ps.take i) d).bind (takeV k p)
  | [], _, _, _, _, _, h, _ => by simp at h
  | _ :: _, [], _, _, _, _, _, h => by simp at h
  | k0 :: ks, p0 :: ps, d, 0, k, p, h1, h2 => by
    simp at h1 h2
    subst h1; subst h2
    simp only [List.take_succ_cons, List.take_zero, foldT, Option.bind_some]
    cases takeV k0 p0 d <;> rfl
  | k0 :: ks, p0 :: ps, d, i + 1, k, p, h1, h2 => by
    rw [List.take_succ_cons, List.take_succ_cons, List.take_succ_cons, List.take_succ_cons, foldT, foldT]
    cases takeV k0 p0 d with
    | none => rfl
    | some d' => exact fold_take ks ps d' i k p (by simpa using h1) (by simpa using h2)
/-- Which op a name is. -/
theorem opV_is (name : By) (k : Nat) (h1 : 1 ≤ k) (h2 : k ≤ 31) : (opV name = k) ↔ (opsL.getD k ([], [])).1 = name := by
  constructor
  · intro h
    unfold opV at h
    cases hf : (List.range 32).find? (fun i => decide (1 ≤ i) && (opsL.getD i ([], [])).1 == name) with
    | none => rw [hf] at h; simp at h; omega
    | some j =>
      rw [hf] at h
      simp at h
      subst h
      have := List.find?_some hf
      simp at this
      simpa using this.2
  · intro h
    have := (ops_ok k (by omega) h1).1
    rw [h] at this
    exact this
theorem opV_le (name : By) : opV name ≤ 31 := by
  unfold opV
  cases hf : (List.range 32).find? (fun i => decide (1 ≤ i) && (opsL.getD i ([], [])).1 == name) with
  | none => simp
  | some j =>
    have := List.mem_of_find?_eq_some hf
    simp at this
    simp
    omega
/-- The op found by those up to k. -/
def opUp (name : By) (k : Nat) : Nat := if opV name < k then opV name else 0
theorem opUp_step (name : By) (k : Nat) (h1 : 1 ≤ k) : opUp name (k + 1) = if k ≤ 31 ∧ (opsL.getD k ([], [])).1 = name then k else opUp name k := by
  have hle := opV_le name
  by_cases hx : k ≤ 31 ∧ (opsL.getD k ([], [])).1 = name
  · have := (opV_is name k h1 hx.1).2 hx.2
    rw [if_pos hx]
    unfold opUp
    rw [if_pos (by omega)]
    exact this
  · rw [if_neg hx]
    have : opV name ≠ k := fun e => by
      by_cases h2 : k ≤ 31
      · exact hx ⟨h2, (opV_is name k h1 h2).1 e⟩
      · omega
    unfold opUp
    by_cases h3 : opV name < k
    · have h4 : opV name < k + 1 := by omega
      simp [h3, h4]
    · have h4 : ¬ opV name < k + 1 := by omega
      simp [h3, h4]
theorem opUp_all (name : By) : opUp name 40 = opV name := by
  unfold opUp
  have := opV_le name
  rw [if_pos (by omega)]
end Go.Proofs.YtjjjdplgdlaihaaGreatDoor

namespace Go.Proofs.YtjjjdplgdlaihaaGreatDoor
open Go Go.RowKit

set_option maxHeartbeats 400000 in
theorem in_any (n lo hi : Int) (w : World) :
    Calls Tryz.prog 31 #[.int .i64 n, .int .i64 lo, .int .i64 hi] w fun e w' => e = .returned (.bool (decide (lo ≤ n) && decide (n ≤ hi))) ∧ w' = w := by
  by_cases h : lo ≤ n
  · go_enter Tryz.func31, Tryz.ntmps31
    go_wp2
    go_ret
    exact ⟨ret_bool (by simp [h]), rfl⟩
  · go_enter Tryz.func31, Tryz.ntmps31
    go_wp2
    go_ret
    exact ⟨ret_bool (by simp; omega), rfl⟩

/-- The letters of the kinds, which registers they have, how many bits, of what a multiple. -/
def kcL : List Int := [82, 73, 72, 83, 66, 85, 74, 69]
def hasL : List ByteArray := [⟨#[100, 97, 98]⟩, ⟨#[100, 97]⟩, ⟨#[100, 97]⟩, ⟨#[97, 98]⟩, ⟨#[97, 98]⟩, ⟨#[100]⟩, ⟨#[100]⟩, ⟨#[]⟩]
def bitsL : List Int := [0, 12, 0, 12, 13, 32, 21, 0]
def ofL : List Int := [1, 1, 1, 1, 2, 4096, 2, 1]
set_option maxHeartbeats 400000 in
theorem has_0 (w : World) : Calls Tryz.prog 41 #[.int .u8 82] w fun e w' => e = .returned (.string ⟨#[100, 97, 98]⟩) ∧ w' = w := by
  go_enter Tryz.func41, Tryz.ntmps41
  go_wp2
  go_ret
  exact ⟨rfl, rfl⟩
set_option maxHeartbeats 400000 in
theorem signs_0 (w : World) : Calls Tryz.prog 57 #[.int .u8 82] w fun e w' => e = .returned (.tuple #[.int .i64 0, .int .i64 1]) ∧ w' = w := by
  go_enter Tryz.func57, Tryz.ntmps57
  go_wp2
  go_ret2
  exact ⟨rfl, rfl⟩
set_option maxHeartbeats 400000 in
theorem has_1 (w : World) : Calls Tryz.prog 41 #[.int .u8 73] w fun e w' => e = .returned (.string ⟨#[100, 97]⟩) ∧ w' = w := by
  go_enter Tryz.func41, Tryz.ntmps41
  go_wp2
  go_ret
  exact ⟨rfl, rfl⟩
set_option maxHeartbeats 400000 in
theorem signs_1 (w : World) : Calls Tryz.prog 57 #[.int .u8 73] w fun e w' => e = .returned (.tuple #[.int .i64 12, .int .i64 1]) ∧ w' = w := by
  go_enter Tryz.func57, Tryz.ntmps57
  go_wp2
  go_ret2
  exact ⟨rfl, rfl⟩
set_option maxHeartbeats 400000 in
theorem has_2 (w : World) : Calls Tryz.prog 41 #[.int .u8 72] w fun e w' => e = .returned (.string ⟨#[100, 97]⟩) ∧ w' = w := by
  go_enter Tryz.func41, Tryz.ntmps41
  go_wp2
  go_ret
  exact ⟨rfl, rfl⟩
set_option maxHeartbeats 400000 in
theorem signs_2 (w : World) : Calls Tryz.prog 57 #[.int .u8 72] w fun e w' => e = .returned (.tuple #[.int .i64 0, .int .i64 1]) ∧ w' = w := by
  go_enter Tryz.func57, Tryz.ntmps57
  go_wp2
  go_ret2
  exact ⟨rfl, rfl⟩
set_option maxHeartbeats 400000 in
theorem has_3 (w : World) : Calls Tryz.prog 41 #[.int .u8 83] w fun e w' => e = .returned (.string ⟨#[97, 98]⟩) ∧ w' = w := by
  go_enter Tryz.func41, Tryz.ntmps41
  go_wp2
  go_ret
  exact ⟨rfl, rfl⟩
set_option maxHeartbeats 400000 in
theorem signs_3 (w : World) : Calls Tryz.prog 57 #[.int .u8 83] w fun e w' => e = .returned (.tuple #[.int .i64 12, .int .i64 1]) ∧ w' = w := by
  go_enter Tryz.func57, Tryz.ntmps57
  go_wp2
  go_ret2
  exact ⟨rfl, rfl⟩
set_option maxHeartbeats 400000 in
theorem has_4 (w : World) : Calls Tryz.prog 41 #[.int .u8 66] w fun e w' => e = .returned (.string ⟨#[97, 98]⟩) ∧ w' = w := by
  go_enter Tryz.func41, Tryz.ntmps41
  go_wp2
  go_ret
  exact ⟨rfl, rfl⟩
set_option maxHeartbeats 400000 in
theorem signs_4 (w : World) : Calls Tryz.prog 57 #[.int .u8 66] w fun e w' => e = .returned (.tuple #[.int .i64 13, .int .i64 2]) ∧ w' = w := by
  go_enter Tryz.func57, Tryz.ntmps57
  go_wp2
  go_ret2
  exact ⟨rfl, rfl⟩
set_option maxHeartbeats 400000 in
theorem has_5 (w : World) : Calls Tryz.prog 41 #[.int .u8 85] w fun e w' => e = .returned (.string ⟨#[100]⟩) ∧ w' = w := by
  go_enter Tryz.func41, Tryz.ntmps41
  go_wp2
  go_ret
  exact ⟨rfl, rfl⟩
set_option maxHeartbeats 400000 in
theorem signs_5 (w : World) : Calls Tryz.prog 57 #[.int .u8 85] w fun e w' => e = .returned (.tuple #[.int .i64 32, .int .i64 4096]) ∧ w' = w := by
  go_enter Tryz.func57, Tryz.ntmps57
  go_wp2
  go_ret2
  exact ⟨rfl, rfl⟩
set_option maxHeartbeats 400000 in
theorem has_6 (w : World) : Calls Tryz.prog 41 #[.int .u8 74] w fun e w' => e = .returned (.string ⟨#[100]⟩) ∧ w' = w := by
  go_enter Tryz.func41, Tryz.ntmps41
  go_wp2
  go_ret
  exact ⟨rfl, rfl⟩
set_option maxHeartbeats 400000 in
theorem signs_6 (w : World) : Calls Tryz.prog 57 #[.int .u8 74] w fun e w' => e = .returned (.tuple #[.int .i64 21, .int .i64 2]) ∧ w' = w := by
  go_enter Tryz.func57, Tryz.ntmps57
  go_wp2
  go_ret2
  exact ⟨rfl, rfl⟩
set_option maxHeartbeats 400000 in
theorem has_7 (w : World) : Calls Tryz.prog 41 #[.int .u8 69] w fun e w' => e = .returned (.string ⟨#[]⟩) ∧ w' = w := by
  go_enter Tryz.func41, Tryz.ntmps41
  go_wp2
  go_ret
  exact ⟨rfl, rfl⟩
set_option maxHeartbeats 400000 in
theorem signs_7 (w : World) : Calls Tryz.prog 57 #[.int .u8 69] w fun e w' => e = .returned (.tuple #[.int .i64 0, .int .i64 1]) ∧ w' = w := by
  go_enter Tryz.func57, Tryz.ntmps57
  go_wp2
  go_ret2
  exact ⟨rfl, rfl⟩
end Go.Proofs.YtjjjdplgdlaihaaGreatDoor

namespace Go.Proofs.YtjjjdplgdlaihaaGreatDoor
open Go Go.RowKit Go.Sort

abbrev formV (k l m h : Int) (s : ByteArray) : Value := .agg #[.int .u8 k, .int .u32 l, .int .u32 m, .int .u32 h, .string s]
theorem wp_store_row {P : Program} {op : Oper} {a : Act} {w : World} {K : Act → World → Prop} {Q : Exit → Act → World → Prop} (ty : TypeId) (x y : Operand) (ho : op.op = .store ty x y)
    (g : Nat) (t : TypeId) (old cells : Array Value) (hx : a.eval x = .pointer (some ⟨g, 0, none⟩)) (hy : a.eval y = .agg cells) (hg : w.heap[g]? = some (.cells old t (0, 0))) (hi : (P.info? ty).map (·.size) = some cells.size)
    (hl : old.size = cells.size) (h1 : cells.all (·.oneCell') = true) (h : K (a.put op.dst undef) (w.setRow g cells)) : op.wp P a w K Q := by
  unfold Oper.wp execOp
  simp only [ho, hx, hy, Instr.storeAt, Instr.sureAddr, Sem.run_bind, Sem.run_pure, Result.andThen_ok, run_storeVar_row w g t ty old cells hg hi hl h1]
  exact h

theorem below_setRow {B : Nat} {a w : World} (h : Below B a w) {g : Nat} (hg : B ≤ g) (cells : Array Value) : Below B a (w.setRow g cells) :=
  h.trans ⟨rfl, rfl, rfl, by simp, fun k hk => setRow_other w g k cells (by omega)⟩

theorem wpList_store_row {P : Program} {ops : Array Oper} {rest : List Oper} {op : Oper} {a : Act} {w : World} {Q : Exit → Act → World → Prop} (hgd : op.guard = none) (ty : TypeId) (x y : Operand) (ho : op.op = .store ty x y)
    (g : Nat) (t : TypeId) (old cells : Array Value) (hx : a.eval x = .pointer (some ⟨g, 0, none⟩)) (hy : a.eval y = .agg cells) (hg : w.heap[g]? = some (.cells old t (0, 0))) (hi : (P.info? ty).map (·.size) = some cells.size)
    (hl : old.size = cells.size) (h1 : cells.all (·.oneCell') = true) (h : wpList P ops Q rest (a.put op.dst undef) (w.setRow g cells)) : wpList P ops Q (op :: rest) a w :=
  wpList_plain hgd fun _ hK => wp_store_row ty x y ho g t old cells hx hy hg hi hl h1 (hK _ _ h)
theorem res45 (fn : Func) (p u : Tmp) (hr : fn.results = #[.cell p 80, .tmp u]) (tmps : Array Value) (w : World) (g : Nat) (a b c d e : Value) (hp : tmps.getD p undef = .pointer (some ⟨g, 0, none⟩)) (hg : w.heap[g]? = some (.cells #[a, b, c, d, e] 80)) :
    (results fn tmps).run Tryz.prog w = .ok (.tuple #[.agg #[a, b, c, d, e], tmps.getD u undef]) w := by
  rw [results_cell_tmp hr, hp]
  have h1 : (loadVar 80 ⟨g, 0, none⟩).run Tryz.prog w = .ok (.agg #[a, b, c, d, e]) w := run_loadVar_row w g 80 80 _ (0, 0) _ hg Tryz.underlying80 rfl (by kernel_rfl)
  simp only [asAddr, Sem.run_pure, Result.andThen_ok, h1]
set_option maxHeartbeats 400000 in
theorem clo28 (m h : Int) (s : ByteArray) (w : World) : Calls Tryz.prog 65 #[.int .u32 m, .int .u32 h, .string s] w fun e w' => e = .returned (.tuple #[formV 82 51 m h s, .bool true]) ∧ Below w.heap.size w w' := by
  go_enter Tryz.func65, Tryz.ntmps65
  go_wp2
  exact bodyPost_ret (res45 _ _ _ Tryz.results65 _ _ w.heap.size _ _ _ _ _ rfl (heap_alloc_last w _)) rfl ⟨rfl, (Below.refl _ _).alloc (Nat.le_refl _) _⟩
set_option maxHeartbeats 400000 in
theorem clo29 (l m : Int) (s : ByteArray) (w : World) : Calls Tryz.prog 66 #[.int .u32 l, .int .u32 m, .string s] w fun e w' => e = .returned (.tuple #[formV 73 l m 0 s, .bool true]) ∧ Below w.heap.size w w' := by
  go_enter Tryz.func66, Tryz.ntmps66
  go_wp2
  exact bodyPost_ret (res45 _ _ _ Tryz.results66 _ _ w.heap.size _ _ _ _ _ rfl (heap_alloc_last w _)) rfl ⟨rfl, (Below.refl _ _).alloc (Nat.le_refl _) _⟩
set_option maxHeartbeats 400000 in
theorem clo30 (m h : Int) (s : ByteArray) (w : World) : Calls Tryz.prog 67 #[.int .u32 m, .int .u32 h, .string s] w fun e w' => e = .returned (.tuple #[formV 72 19 m h s, .bool true]) ∧ Below w.heap.size w w' := by
  go_enter Tryz.func67, Tryz.ntmps67
  go_wp2
  exact bodyPost_ret (res45 _ _ _ Tryz.results67 _ _ w.heap.size _ _ _ _ _ rfl (heap_alloc_last w _)) rfl ⟨rfl, (Below.refl _ _).alloc (Nat.le_refl _) _⟩
set_option maxHeartbeats 400000 in
theorem clo31 (m : Int) (s : ByteArray) (w : World) : Calls Tryz.prog 68 #[.int .u32 m, .string s] w fun e w' => e = .returned (.tuple #[formV 66 99 m 0 s, .bool true]) ∧ Below w.heap.size w w' := by
  go_enter Tryz.func68, Tryz.ntmps68
  go_wp2
  exact bodyPost_ret (res45 _ _ _ Tryz.results68 _ _ w.heap.size _ _ _ _ _ rfl (heap_alloc_last w _)) rfl ⟨rfl, (Below.refl _ _).alloc (Nat.le_refl _) _⟩

theorem one45 (k l m h : Int) (s : ByteArray) : (#[Value.int .u8 k, .int .u32 l, .int .u32 m, .int .u32 h, .string s] : Array Value).all (·.oneCell') = true := by simp [Value.oneCell']
abbrev zero45 : Array Value := #[.int .u8 0, .int .u32 0, .int .u32 0, .int .u32 0, .string ⟨#[]⟩]
end Go.Proofs.YtjjjdplgdlaihaaGreatDoor
