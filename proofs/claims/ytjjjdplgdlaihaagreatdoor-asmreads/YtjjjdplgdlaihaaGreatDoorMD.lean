/- What the walks read of package variables: the tables, the ops' names and parts, strconv's own. Package asm's letter and Name, walked. Package asm's opOf, walked. Package asm's readNumber and readRegister, walked. -/
import Derived.Test.YtjjjdplgdlaihaaGreatDoorMB
import Derived.Test.YtjjjdplgdlaihaaGreatDoorShelf
import Derived.Test.YtjjjdplgdlaihaaGreatDoorMC
namespace Go.Proofs.YtjjjdplgdlaihaaGreatDoor
open Go Go.RowKit

abbrev str (s : By) : Value := .string ⟨s.toArray⟩
def opN (o : Nat) : By := (opsL.getD o ([], [])).1
def opP (o : Nat) : By := (opsL.getD o ([], [])).2

structure Env (w : World) : Prop where
  tab : Tabs T w
  opn : ∀ o, 1 ≤ o → o ≤ 31 → w.cell? ⟨1, o * 2, none⟩ = some (str (opN o))
  opp : ∀ o, 1 ≤ o → o ≤ 31 → w.cell? ⟨1, o * 2 + 1, none⟩ = some (str (opP o))
  pow : Lib.TabIs Tryz.prog w "internal/strconv.uint64pow10" .u64 Lib.pow10Tab
  max : ∃ m, w.cell? ⟨6, 0, none⟩ = some (.int .i64 m)
  syn : ∃ tp p, w.var? Tryz.prog "strconv.ErrSyntax" = some #[.iface tp p]
  rng : ∃ tp p, w.var? Tryz.prog "strconv.ErrRange" = some #[.iface tp p]

theorem var_below {w w' : World} {name : String} {cs : Array Value} (h : w.var? Tryz.prog name = some cs) (hb : Below w.heap.size w w') : w'.var? Tryz.prog name = some cs := by
  unfold World.var? at *
  cases hg : Tryz.prog.globalNamed name with
  | none => simp [hg] at h
  | some g =>
    simp only [hg, Option.bind_some] at h ⊢
    have hlt : g < w.heap.size := by
      rcases Nat.lt_or_ge g w.heap.size with h' | h'
      · exact h'
      · rw [Array.getElem?_eq_none h'] at h; simp at h
    rw [hb.block g hlt]
    exact h

theorem Env.below {w w' : World} (h : Env w) (hb : Below w.heap.size w w') : Env w' := by
  obtain ⟨m, hm⟩ := h.max
  obtain ⟨t1, p1, h1⟩ := h.syn
  obtain ⟨t2, p2, h2⟩ := h.rng
  exact ⟨h.tab.below hb, fun o a b => (hb.cell (World.block_lt_of_cell? w _ (h.opn o a b))).trans (h.opn o a b), fun o a b => (hb.cell (World.block_lt_of_cell? w _ (h.opp o a b))).trans (h.opp o a b), var_below h.pow hb, ⟨m, (hb.cell (World.block_lt_of_cell? w _ hm)).trans hm⟩, ⟨t1, p1, var_below h1 hb⟩, ⟨t2, p2, var_below h2 hb⟩⟩
end Go.Proofs.YtjjjdplgdlaihaaGreatDoor

namespace Go.Proofs.YtjjjdplgdlaihaaGreatDoor
open Go Go.RowKit

def ltI (x : Int) : Bool := decide (97 ≤ x) && decide (x ≤ 122)
theorem letter_any (x : Int) (w : World) : Calls Tryz.prog 30 #[.int .u8 x] w fun e w' => e = .returned (.bool (ltI x)) ∧ w' = w := by
  by_cases h1 : 97 ≤ x
  · by_cases h2 : x ≤ 122
    · go_enter Tryz.func30, Tryz.ntmps30
      go_wp2
      go_ret
      exact ⟨ret_bool (by simp [ltI, h1, h2]), rfl⟩
    · go_enter Tryz.func30, Tryz.ntmps30
      go_wp2
      go_ret
      exact ⟨ret_bool (by simp [ltI, h2]), rfl⟩
  · go_enter Tryz.func30, Tryz.ntmps30
    go_wp2
    go_ret
    exact ⟨ret_bool (by simp [ltI]; omega), rfl⟩

theorem ltI_is (c : UInt8) : ltI (c.toNat : Int) = isL c := by
  unfold ltI isL
  rw [Bool.eq_iff_iff]
  simp
  omega
def okI (x : Int) : Bool := ltI x || (decide (48 ≤ x) && decide (x ≤ 57)) || decide (x = 95) || decide (x = 46)
theorem okI_is (c : UInt8) : okI (c.toNat : Int) = okC c := by
  have e1 : decide ((c.toNat : Int) = 95) = (c.toNat == 95) := by rw [Bool.eq_iff_iff]; simp; omega
  have e2 : decide ((c.toNat : Int) = 46) = (c.toNat == 46) := by rw [Bool.eq_iff_iff]; simp; omega
  have e3 : decide (48 ≤ (c.toNat : Int)) = decide (48 ≤ c.toNat) := by rw [Bool.eq_iff_iff]; simp; omega
  have e4 : decide ((c.toNat : Int) ≤ 57) = decide (c.toNat ≤ 57) := by rw [Bool.eq_iff_iff]; simp; omega
  unfold okI okC
  rw [ltI_is, e1, e2, e3, e4]

theorem all_snoc (s : ByteArray) (k : Nat) (h : k < s.size) : (s.data.toList.take (k + 1)).all okC = ((s.data.toList.take k).all okC && okC s[k]) := by
  rw [List.take_succ_eq_append_getElem (by simpa using h), List.all_append]
  simp
  rfl

set_option maxHeartbeats 2000000 in
theorem name_any (s : ByteArray) (w : World) (hs : s.size ≤ 9223372036854775807) :
    Calls Tryz.prog 9 #[.string s] w fun e w' => e = .returned (.bool (nameV s.data.toList)) ∧ w' = w := by
  have hlen : s.data.toList.length = s.size := by simp
  by_cases h1 : s.size < 1
  · have e : nameV s.data.toList = false := by unfold nameV; rw [hlen]; simp; omega
    rw [e]
    go_enter Tryz.func9, Tryz.ntmps9
    go_wp2
    go_ret
    exact ⟨rfl, rfl⟩
  · by_cases h2 : 24 < s.size
    · have e : nameV s.data.toList = false := by unfold nameV; rw [hlen]; simp; omega
      rw [e]
      go_enter Tryz.func9, Tryz.ntmps9
      go_wp2
      go_ret
      exact ⟨rfl, rfl⟩
    · have h0 : 0 < s.size := by omega
      have hd : ∃ c t, s.data.toList = c :: t ∧ s[0] = c := by
        cases hc : s.data.toList with
        | nil => rw [hc] at hlen; simp at hlen; omega
        | cons c t =>
          refine ⟨c, t, rfl, ?_⟩
          have : s.data.toList[0]? = some c := by rw [hc]; rfl
          rw [List.getElem?_eq_getElem (by omega)] at this
          exact (by simpa using this : s.data[0] = c)
      obtain ⟨c, t, hct, hc0⟩ := hd
      cases hL : isL c with
      | false =>
        have e : nameV s.data.toList = false := by unfold nameV; rw [hct]; simp [hL]
        rw [e]
        have HL : Hid (ltI (s[0].toNat : Int) = false) := by show _ = _; rw [ltI_is, hc0]; exact hL
        clear e hct hL hc0 hlen
        go_enter Tryz.func9, Tryz.ntmps9
        go_wp2_with (first | (go_at_call 30; refine (letter_any _ _).mono ?_; rw [HL.out]; rintro e w ⟨rfl, rfl⟩) | go_in)
        go_ret
        exact ⟨rfl, rfl⟩
      | true =>
        have HL : Hid (ltI (s[0].toNat : Int) = true) := by show _ = _; rw [ltI_is, hc0]; exact hL
        have HN : Hid (nameV s.data.toList = s.data.toList.all okC) := by
          show _ = _
          unfold nameV
          rw [hlen, hct]
          simp [hL]
          intro _ _
          omega
        clear hct hL hc0 hlen
        go_enter Tryz.func9, Tryz.ntmps9
        go_wp2_with (first | (go_at_call 30; refine (letter_any _ _).mono ?_; rw [HL.out]; rintro e w ⟨rfl, rfl⟩) | go_in)
        go_loop [21] (fun i => ∃ k : Nat, k ≤ s.size ∧ i = .int .i64 k ∧ Hid ((s.data.toList.take k).all okC = true)) (fun i => s.size - (intOf i).toNat)
        case atStart => exact ⟨0, Nat.zero_le _, rfl, by show _ = _; simp⟩
        case round =>
          obtain ⟨k, hk, rfl, hall⟩ := hrel
          by_cases hlt : k < s.size
          · have HS : Hid ((s.data.toList.take (k + 1)).all okC = ((s.data.toList.take k).all okC && okC s[k])) := all_snoc s k hlt
            have HO : Hid (okI (s[k].toNat : Int) = okC s[k]) := okI_is _
            have HT : Hid (okI (s[k].toNat : Int) = true → (s.data.toList.take (k + 1)).all okC = true) := fun h => by rw [HS.out, hall.out, ← HO.out, h]; rfl
            have HF : Hid (okI (s[k].toNat : Int) = false → nameV s.data.toList = false) := fun h => by
              rw [HN.out, ← List.take_append_drop (k + 1) s.data.toList, List.all_append, HS.out, ← HO.out, h]
              simp
            clear HS HO
            cases hl : ltI (s[k].toNat : Int) with
            | true =>
              have HL2 : Hid (ltI (s[k].toNat : Int) = true) := hl
              clear hl
              go_wp2_with (first | (go_at_call 30; refine (letter_any _ _).mono ?_; rw [HL2.out]; rintro e w ⟨rfl, rfl⟩) | go_in)
              go_round
              case rel => exact ⟨k + 1, by omega, by go_num, HT.out (by simp [okI, HL2.out])⟩
              case measure => simp [intOf]; omega
            | false =>
              have HL2 : Hid (ltI (s[k].toNat : Int) = false) := hl
              clear hl
              have h4 : (48 ≤ (s[k].toNat : Int) ∧ (s[k].toNat : Int) ≤ 57) ∨ (s[k].toNat : Int) = 95 ∨ (s[k].toNat : Int) = 46 ∨ ((s[k].toNat : Int) < 48 ∧ ¬ (s[k].toNat : Int) = 46) ∨ (57 < (s[k].toNat : Int) ∧ ¬ (s[k].toNat : Int) = 95) := by omega
              rcases h4 with ⟨h4, h5⟩ | h4 | h4 | ⟨h4, h5⟩ | ⟨h4, h5⟩
              · go_wp2_with (first | (go_at_call 30; refine (letter_any _ _).mono ?_; rw [HL2.out]; rintro e w ⟨rfl, rfl⟩) | go_in)
                go_round
                case rel => exact ⟨k + 1, by omega, by go_num, HT.out (by simp [okI, HL2.out]; omega)⟩
                case measure => simp [intOf]; omega
              · rw [h4] at HT HF HL2
                go_wp2_with (first | (go_at_call 30; refine (letter_any _ _).mono ?_; rw [HL2.out]; rintro e w ⟨rfl, rfl⟩) | go_in)
                go_round
                case rel => exact ⟨k + 1, by omega, by go_num, HT.out (by decide)⟩
                case measure => simp [intOf]; omega
              · rw [h4] at HT HF HL2
                go_wp2_with (first | (go_at_call 30; refine (letter_any _ _).mono ?_; rw [HL2.out]; rintro e w ⟨rfl, rfl⟩) | go_in)
                go_round
                case rel => exact ⟨k + 1, by omega, by go_num, HT.out (by decide)⟩
                case measure => simp [intOf]; omega
              · have h6 : ((s[k].toNat : Int) != 95) = true := by simp; omega
                have h7 : ((s[k].toNat : Int) != 46) = true := by simp; omega
                go_wp2_with (first | (go_at_call 30; refine (letter_any _ _).mono ?_; rw [HL2.out]; rintro e w ⟨rfl, rfl⟩) | go_in)
                go_ret
                exact ⟨ret_bool (HF.out (by simp [okI, HL2.out]; omega)).symm, rfl⟩
              · have h6 : ((s[k].toNat : Int) != 46) = true := by simp; omega
                have h7 : ((s[k].toNat : Int) != 95) = true := by simp; omega
                go_wp2_with (first | (go_at_call 30; refine (letter_any _ _).mono ?_; rw [HL2.out]; rintro e w ⟨rfl, rfl⟩) | go_in)
                go_ret
                exact ⟨ret_bool (HF.out (by simp [okI, HL2.out]; omega)).symm, rfl⟩
          · have e : k = s.size := by omega
            subst e
            go_wp2
            go_ret
            refine ⟨ret_bool ?_, rfl⟩
            rw [HN.out]
            have := hall.out
            rw [List.take_of_length_le (by simp)] at this
            exact this.symm
end Go.Proofs.YtjjjdplgdlaihaaGreatDoor

namespace Go.Proofs.YtjjjdplgdlaihaaGreatDoor
open Go Go.RowKit

theorem opV_hit (s : By) (k : Nat) (h1 : 1 ≤ k) (h2 : k < 32) (hk : opN k = s) (hb : ∀ j, 1 ≤ j → j < k → opN j ≠ s) : opV s = k := by
  unfold opV
  have : (List.range 32).find? (fun i => decide (1 ≤ i) && (opsL.getD i ([], [])).1 == s) = some k := by
    rw [List.find?_range_eq_some]
    refine ⟨by simp [h1]; exact hk, by simpa using h2, fun j hj => ?_⟩
    by_cases h : 1 ≤ j
    · simp [h]; exact hb j h hj
    · simp [h]
  rw [this]
  rfl
theorem opV_miss (s : By) (hb : ∀ j, 1 ≤ j → j < 32 → opN j ≠ s) : opV s = 0 := by
  unfold opV
  have : (List.range 32).find? (fun i => decide (1 ≤ i) && (opsL.getD i ([], [])).1 == s) = none := by
    rw [List.find?_eq_none]
    intro j hj
    simp only [List.mem_range] at hj
    by_cases h : 1 ≤ j
    · simp [h]; exact hb j h hj
    · simp [h]
  rw [this]
  rfl

theorem bytes_ext (s : ByteArray) (l : By) : s = ⟨l.toArray⟩ ↔ s.data.toList = l := by
  constructor
  · intro h; rw [h]
  · intro h; cases s with | mk d => simp at h ⊢; rw [← h]

theorem bytes_neq {b s : ByteArray} (h : ¬ b = s) : (b.toList == s.toList) = false := by
  rw [Lib.toList_data, Lib.toList_data]
  simp only [beq_eq_false_iff_ne, ne_eq]
  intro e
  exact h ((bytes_ext b s.data.toList).2 e)

set_option maxHeartbeats 2000000 in
theorem opOf_any (s : ByteArray) (w : World) (he : Env w) :
    Calls Tryz.prog 61 #[.string s] w fun e w' => e = .returned (.int .i64 (opV s.data.toList : Int)) ∧ w' = w := by
  have HE : Hid (Env w) := he
  clear he
  go_enter Tryz.func61, Tryz.ntmps61
  go_wp2
  go_loop [3] (fun i => ∃ k : Nat, 1 ≤ k ∧ k ≤ 32 ∧ i = .int .i64 k ∧ Hid (∀ j, 1 ≤ j → j < k → opN j ≠ s.data.toList)) (fun i => 32 - (intOf i).toNat)
  case atStart => exact ⟨1, by omega, by omega, rfl, fun j h1 h2 => by omega⟩
  case round =>
    obtain ⟨k, hk1, hk2, rfl, hb⟩ := hrel
    by_cases hlt : k < 32
    · have hc := HE.out.opn k hk1 (by omega)
      have hk3 : (k : Int) ≤ 31 := by omega
      by_cases hq : opN k = s.data.toList
      · have HV : Hid (opV s.data.toList = k) := opV_hit _ k hk1 hlt hq hb.out
        have hs : (⟨(opN k).toArray⟩ : ByteArray) = s := ((bytes_ext s _).2 hq.symm).symm
        simp only [str] at hc
        rw [hs] at hc
        clear hs hq
        go_wp2
        go_ret
        exact ⟨ret_int (by rw [HV.out]), rfl⟩
      · have hn : ¬ (⟨(opN k).toArray⟩ : ByteArray) = s := fun h => hq ((bytes_ext s _).1 h.symm).symm
        have HB : Hid (∀ j, 1 ≤ j → j < k + 1 → opN j ≠ s.data.toList) := fun j h1 h2 => by
          rcases Nat.lt_or_eq_of_le (Nat.le_of_lt_succ h2) with h | h
          · exact hb.out j h1 h
          · rw [h]; exact hq
        simp only [str] at hc
        clear hq
        generalize (⟨(opN k).toArray⟩ : ByteArray) = b at *
        have hn2 : (b.toList == s.toList) = false := bytes_neq hn
        go_wp2
        go_round
        case rel => exact ⟨k + 1, by omega, by omega, by go_num, HB⟩
        case measure => simp [intOf]; omega
    · obtain rfl : k = 32 := by omega
      have HV : Hid (opV s.data.toList = 0) := opV_miss _ hb.out
      go_wp2
      go_ret
      exact ⟨ret_int (by rw [HV.out]; rfl), rfl⟩
end Go.Proofs.YtjjjdplgdlaihaaGreatDoor

namespace Go.Proofs.YtjjjdplgdlaihaaGreatDoor
open Go Go.RowKit

abbrev I64 (x : Int) : Prop := -9223372036854775808 ≤ x ∧ x ≤ 9223372036854775807

theorem parse_in {l : By} {v : Int} (h : Lib.parseIntB 64 l = .ok v) : I64 v := by
  cases l with
  | nil => simp [Lib.parseIntB] at h
  | cons c r =>
    simp only [Lib.parseIntB] at h
    split at h
    · cases h
    · cases h
    · rename_i u _
      split at h
      · cases h
      · rename_i h1
        split at h
        · cases h
        · rename_i h2
          injection h with h
          subst h
          simp at h1 h2
          split <;> (constructor <;> omega)

theorem numV_split {l : By} {v : Int} (h : numV l = some v) : Lib.parseIntB 64 l = .ok v ∧ Lib.itoa v = l := by
  unfold numV at h
  split at h
  · rename_i u hu
    split at h
    · rename_i e
      injection h with h
      subst h
      exact ⟨hu, e⟩
    · cases h
  · cases h
theorem numV_in {l : By} {v : Int} (h : numV l = some v) : I64 v := parse_in (numV_split h).1

set_option maxHeartbeats 2000000 in
theorem num_yes (s : ByteArray) (p : Addr) (old : Value) (v : Int) (w : World) (he : Env w) (hsz : s.size ≤ 281474976710656) (h : numV s.data.toList = some v) (hc : w.cell? p = some old) (hf : w.frozen? p = false) :
    Calls Tryz.prog 91 #[.string s, .pointer (some p)] w fun e w' => e = .returned (.bool true) ∧ ∃ w2, Below w.heap.size w w2 ∧ w' = w2.setCell p (.int .i64 v) := by
  obtain ⟨h1, h2⟩ := numV_split h
  obtain ⟨v0, v1⟩ := numV_in h
  have hs : (⟨(Lib.itoa v).toArray⟩ : ByteArray) = s := by rw [h2]
  have HP : Hid (Calls Tryz.prog 87 #[.string s, .int .i64 10, .int .i64 64] w fun e w' => e = .returned (.tuple #[.int .i64 v, .nilIface]) ∧ Below w.heap.size w w') :=
    (Tryz.strconv_ParseInt_10_at64_ok s (by omega) v h1 w).mono fun e w' ⟨a, b⟩ => ⟨a, by
      rcases b with b | ⟨t, b⟩
      · rw [b]; exact Below.refl _ _
      · rw [b]; exact Lib.bytesWorld_below _ _ _⟩
  have HF : Hid (∀ w', Below w.heap.size w w' → Calls Tryz.prog 34 #[.int .i64 v, .int .i64 10] w' fun e w'' => e = .returned (.string s) ∧ Below w.heap.size w w'') := fun w' hb => by
    have := Tryz.strconv_FormatInt_10 v v0 v1 w' (he.below hb).pow
    rw [hs] at this
    exact this.mono fun e w'' ⟨a, k, os, b⟩ => ⟨a, by rw [b]; exact hb.trans (Lib.below_grow _ _ hb.size _ _)⟩
  have HC : Hid (∀ w', Below w.heap.size w w' → w'.cell? p = some old ∧ w'.frozen? p = false) := fun w' hb => by
    have hl := block_lt_of_cell hc
    exact ⟨(hb.cell hl).trans hc, (World.frozen?_of_block (w := w) (hb.block _ hl)).trans hf⟩
  clear h h1 h2 hs he hc hf
  go_enter Tryz.func91, Tryz.ntmps91
  go_wp2_with (first
    | (go_at_call 87; refine HP.out.mono ?_; rintro e w1 ⟨rfl, hb⟩; have HB : Hid (Below w.heap.size w w1) := hb; clear hb)
    | (go_at_call 34; refine (HF.out _ HB.out).mono ?_; rintro e w2 ⟨rfl, hb⟩; have HB2 : Hid (Below w.heap.size w w2) := hb; obtain ⟨hc2, hf2⟩ := HC.out _ hb; clear hb)
    | go_in)
  go_ret
  exact ⟨rfl, w2, HB2.out, rfl⟩

set_option maxHeartbeats 2000000 in
theorem num_no (s : ByteArray) (p : Addr) (w : World) (he : Env w) (hsz : s.size ≤ 281474976710656) (h : numV s.data.toList = none) :
    Calls Tryz.prog 91 #[.string s, .pointer (some p)] w fun e w' => e = .returned (.bool false) ∧ Below w.heap.size w w' := by
  rcases hp : Lib.parseIntB 64 s.data.toList with v | _ | _
  · obtain ⟨v0, v1⟩ := parse_in hp
    have hn : ¬ (⟨(Lib.itoa v).toArray⟩ : ByteArray) = s := fun e => by
      have : s.data.toList = Lib.itoa v := by rw [← e]
      unfold numV at h
      rw [hp] at h
      simp [this] at h
    have HP : Hid (Calls Tryz.prog 87 #[.string s, .int .i64 10, .int .i64 64] w fun e w' => e = .returned (.tuple #[.int .i64 v, .nilIface]) ∧ Below w.heap.size w w') :=
      (Tryz.strconv_ParseInt_10_at64_ok s (by omega) v hp w).mono fun e w' ⟨a, b⟩ => ⟨a, by
        rcases b with b | ⟨t, b⟩
        · rw [b]; exact Below.refl _ _
        · rw [b]; exact Lib.bytesWorld_below _ _ _⟩
    have HF : Hid (∀ w', Below w.heap.size w w' → Calls Tryz.prog 34 #[.int .i64 v, .int .i64 10] w' fun e w'' => e = .returned (.string ⟨(Lib.itoa v).toArray⟩) ∧ Below w.heap.size w w'') := fun w' hb =>
      (Tryz.strconv_FormatInt_10 v v0 v1 w' (he.below hb).pow).mono fun e w'' ⟨a, k, os, b⟩ => ⟨a, by rw [b]; exact hb.trans (Lib.below_grow _ _ hb.size _ _)⟩
    clear h hp he
    generalize (⟨(Lib.itoa v).toArray⟩ : ByteArray) = b at *
    have hn2 := bytes_neq hn
    clear hn
    go_enter Tryz.func91, Tryz.ntmps91
    go_wp2_with (first
      | (go_at_call 87; refine HP.out.mono ?_; rintro e w1 ⟨rfl, hb⟩; have HB : Hid (Below w.heap.size w w1) := hb; clear hb)
      | (go_at_call 34; refine (HF.out _ HB.out).mono ?_; rintro e w2 ⟨rfl, hb⟩; have HB2 : Hid (Below w.heap.size w w2) := hb; clear hb)
      | go_in)
    go_ret
    exact ⟨rfl, HB2.out⟩
  · obtain ⟨tp, q, hv⟩ := he.syn
    have HP : Hid (Calls Tryz.prog 87 #[.string s, .int .i64 10, .int .i64 64] w fun e w' => ∃ N, e = .returned (.tuple #[.int .i64 0, .iface 200 (.pointer (some ⟨N, 0, none⟩))]) ∧ Below w.heap.size w w') :=
      (Tryz.strconv_ParseInt_10_at64_syntax_var s hsz hp tp q w hv).mono fun e w' ⟨N, a, _, _, b⟩ => ⟨N, a, b⟩
    clear h hp he hv
    go_enter Tryz.func91, Tryz.ntmps91
    go_wp2_with (go_at_call 87; refine HP.out.mono ?_; rintro e w1 ⟨N, rfl, hb⟩; have HB : Hid (Below w.heap.size w w1) := hb; clear hb)
    go_ret
    exact ⟨rfl, HB.out⟩
  · obtain ⟨tp, q, hv⟩ := he.rng
    have HP : Hid (Calls Tryz.prog 87 #[.string s, .int .i64 10, .int .i64 64] w fun e w' => ∃ N, e = .returned (.tuple #[.int .i64 (Lib.intSat 64 s.data.toList), .iface 200 (.pointer (some ⟨N, 0, none⟩))]) ∧ Below w.heap.size w w') :=
      (Tryz.strconv_ParseInt_10_at64_range_var s hsz hp tp q w hv).mono fun e w' ⟨N, a, _, _, b⟩ => ⟨N, a, b⟩
    clear h hp he hv
    generalize Lib.intSat 64 s.data.toList = z at *
    go_enter Tryz.func91, Tryz.ntmps91
    go_wp2_with (go_at_call 87; refine HP.out.mono ?_; rintro e w1 ⟨N, rfl, hb⟩; have HB : Hid (Below w.heap.size w w1) := hb; clear hb)
    go_ret
    exact ⟨rfl, HB.out⟩
end Go.Proofs.YtjjjdplgdlaihaaGreatDoor
