/- A step keeps numbers of 64 bits; plain facts on what an instruction is. -/
import Derived.Test.YtaodcpdkobhmfaaDoorML
import Derived.Test.YtaodcpdkobhmfaaDoorS1
import Derived.Test.YtaodcpdkobhmfaaDoorI3
namespace Go.Proofs.YtaodcpdkobhmfaaDoor
open Go Go.RowKit

abbrev I64 (x : Int) : Prop := -9223372036854775808 ≤ x ∧ x ≤ 9223372036854775807

theorem wrap64_in (x : Int) : I64 (wrap64 x) := by unfold wrap64; constructor <;> omega
theorem bits_in (op : BinOp) (x y : Int) : I64 (bits op .i64 x y) := by
  unfold bits
  generalize (match op with
    | .and => BitVec.ofInt IntKind.i64.bits x &&& BitVec.ofInt IntKind.i64.bits y
    | .or => BitVec.ofInt IntKind.i64.bits x ||| BitVec.ofInt IntKind.i64.bits y
    | .xor => BitVec.ofInt IntKind.i64.bits x ^^^ BitVec.ofInt IntKind.i64.bits y
    | _ => BitVec.ofInt IntKind.i64.bits x &&& ~~~BitVec.ofInt IntKind.i64.bits y) = z
  have := z.isLt
  simp only [IntKind.wrap, IntKind.bits, IntKind.signed] at *
  simp
  constructor <;> omega

theorem rem_in (a b : Int) (ha : I64 a) : I64 (Alu.remD a b) := by
  unfold Alu.remD
  split
  · exact ha
  · have h := Int.natAbs_tmod a b
    have h2 : (a.tmod b).natAbs ≤ a.natAbs := by rw [h]; exact Nat.mod_le _ _
    have h3 : (0 ≤ a → 0 ≤ a.tmod b) := fun h0 => Int.tmod_nonneg b h0
    have h4 : (a ≤ 0 → a.tmod b ≤ 0) := fun h0 => by
      have := Int.tmod_nonneg b (show 0 ≤ -a by omega)
      rw [Int.neg_tmod] at this
      omega
    constructor <;> omega

theorem alu_in (o a b : Int) (ha : I64 a) : I64 (Alu.aluV o a b) := by
  unfold Alu.aluV
  have ho : ∀ y, I64 (Alu.oneD y) := fun y => by unfold Alu.oneD; split <;> (constructor <;> omega)
  have hq : I64 (Alu.quoD a b) := by
    unfold Alu.quoD
    split
    · constructor <;> omega
    · exact wrap64_in _
  by_cases c0 : o = 1 ∨ o = 14
  · rw [if_pos c0]; exact wrap64_in _
  rw [if_neg c0]
  by_cases c1 : o = 2
  · rw [if_pos c1]; exact wrap64_in _
  rw [if_neg c1]
  by_cases c2 : o = 3
  · rw [if_pos c2]; exact wrap64_in _
  rw [if_neg c2]
  by_cases c3 : o = 4
  · rw [if_pos c3]; exact hq
  rw [if_neg c3]
  by_cases c4 : o = 5
  · rw [if_pos c4]; exact rem_in a b ha
  rw [if_neg c4]
  by_cases c5 : o = 6 ∨ o = 15
  · rw [if_pos c5]; exact bits_in _ _ _
  rw [if_neg c5]
  by_cases c6 : o = 7 ∨ o = 16
  · rw [if_pos c6]; exact bits_in _ _ _
  rw [if_neg c6]
  by_cases c7 : o = 8 ∨ o = 17
  · rw [if_pos c7]; exact bits_in _ _ _
  rw [if_neg c7]
  by_cases c8 : o = 9 ∨ o = 18
  · rw [if_pos c8]; exact ho _
  rw [if_neg c8]
  by_cases c9 : o = 10
  · rw [if_pos c9]; exact ho _
  rw [if_neg c9]
  by_cases c10 : o = 11 ∨ o = 19
  · rw [if_pos c10]; exact wrap64_in _
  rw [if_neg c10]
  by_cases c11 : o = 12 ∨ o = 20
  · rw [if_pos c11]; exact wrap64_in _
  rw [if_neg c11]
  by_cases c12 : o = 13 ∨ o = 21
  · rw [if_pos c12]; exact Alu.sra_in a _ ha.1 ha.2
  rw [if_neg c12]
  constructor <;> omega

theorem even_bits (x : Int) (h : I64 x) : wrap64 (x - bits .and .i64 x 1) = bits .andNot .i64 x 1 := by
  have e1 : bits .and .i64 x 1 = IntKind.i64.wrap ((BitVec.ofInt 64 x &&& 1#64).toNat : Int) := rfl
  have e2 : bits .andNot .i64 x 1 = IntKind.i64.wrap ((BitVec.ofInt 64 x &&& ~~~1#64).toNat : Int) := rfl
  have e3 : (BitVec.ofInt 64 x &&& ~~~1#64) = (BitVec.ofInt 64 x >>> 1) <<< 1 := by
    apply BitVec.eq_of_getLsbD_eq
    intro i hi
    rw [BitVec.getLsbD_and, BitVec.getLsbD_not, BitVec.getLsbD_shiftLeft, BitVec.getLsbD_ushiftRight]
    by_cases h0 : i = 0
    · subst h0; simp
    · have e : (1#64).getLsbD i = false := by simp [BitVec.getLsbD_one, h0]
      rw [e, show 1 + (i - 1) = i by omega]
      simp [hi]
      intro _
      exact h0
  rw [e1, e2, e3, BitVec.toNat_and, BitVec.toNat_shiftLeft, BitVec.toNat_ushiftRight, BitVec.toNat_ofInt]
  have e5 : (1#64).toNat = 1 := rfl
  rw [e5, Nat.and_one_is_mod, Nat.shiftRight_eq_div_pow, Nat.shiftLeft_eq]
  obtain ⟨h0, h1⟩ := h
  simp [IntKind.wrap, IntKind.bits, IntKind.signed, wrap64]
  omega

/-- The tables' bounds on N. -/
theorem tab_lohi : ∀ o, o < 32 → -2147483648 ≤ (T.sh (T.kd o)).lo ∧ (T.sh (T.kd o)).hi ≤ 2147483648 := by decide

theorem In.num {i : In} (h : i.rt = true) : -2147483648 ≤ i.n ∧ i.n < 2147483648 := by
  obtain ⟨h1, h2, h3⟩ := Rt_split h
  simp only [rightB, Bool.and_eq_true] at h3
  have h4 := h3.2
  simp only [nfB, Bool.and_eq_true, decide_eq_true_eq] at h4
  have h5 := tab_lohi i.o.toNat (by omega)
  omega

theorem In.nod {i : In} (h : i.rt = true) (ho : i.o = 24 ∨ i.o = 25 ∨ i.o = 26 ∨ i.o = 27 ∨ i.o = 28 ∨ i.o = 31) : i.d = 0 := by
  obtain ⟨h1, h2, h3⟩ := Rt_split h
  simp only [rightB, Bool.and_eq_true] at h3
  have h4 := h3.1.1.1
  have e : (T.sh (T.kd i.o.toNat)).rd = false := by
    rcases ho with h | h | h | h | h | h <;> (rw [h]; rfl)
  rw [e] at h4
  have := fit_f i.d h4
  omega

/-- What a machine's state keeps. -/
structure Wel (L : Nat) (m : MS) : Prop where
  rng : Rng L m
  cod : m.way = 0 → m.code = 0

theorem upd_in {R : Nat → Int} {d : Nat} {v : Int} (h : ∀ i, i < 32 → I64 (R i)) (hv : I64 v) : ∀ i, i < 32 → I64 (upd R d v i) := fun i hi => by
  unfold upd
  split
  · exact hv
  · exact h i hi

theorem Rng.write {L : Nat} {m : MS} (h : Rng L m) (d v y : Int) (hv : I64 v) (hy : I64 y) : Rng L { writeV m d v with pc := y } := by
  unfold writeV
  split
  · exact ⟨h.R, hy, h.G, h.M⟩
  · exact ⟨upd_in h.R hv, hy, h.G, h.M⟩

theorem Rng.pc' {L : Nat} {m : MS} (h : Rng L m) (y : Int) (hy : I64 y) : Rng L { m with pc := y } := ⟨h.R, hy, h.G, h.M⟩

theorem Rng.call {L : Nat} {m : MS} (h : Rng L m) : Rng L (callV m) := by
  unfold callV
  split
  · split <;> exact ⟨h.R, h.pc, h.G, h.M⟩
  · split
    · split
      · exact ⟨upd_in h.R (by constructor <;> omega), h.pc, h.G, h.M⟩
      · rename_i g t hg
        have hG := h.G
        rw [hg] at hG
        exact ⟨upd_in h.R (hG g (by simp)), h.pc, fun x hx => hG x (by simp [hx]), h.M⟩
    · split
      · split <;> exact ⟨h.R, h.pc, h.G, h.M⟩
      · exact ⟨h.R, h.pc, h.G, h.M⟩

theorem callV_pc (m : MS) : (callV m).pc = m.pc := by
  unfold callV
  split
  · split <;> rfl
  · split
    · split <;> rfl
    · split
      · split <;> rfl
      · rfl

theorem callV_code {m : MS} (hc : m.code = 0) : (callV m).way = 0 → (callV m).code = 0 := by
  unfold callV
  split
  · split
    · intro h; simp at h
    · exact fun _ => hc
  · split
    · split <;> exact fun _ => hc
    · split
      · split
        · intro h; simp at h
        · rename_i h1
          intro h
          have h' : m.R 10 = 0 := h
          omega
      · intro h; simp at h

theorem writeV_way (m : MS) (d v : Int) : (writeV m d v).way = m.way := by unfold writeV; split <;> rfl
theorem writeV_code (m : MS) (d v : Int) : (writeV m d v).code = m.code := by unfold writeV; split <;> rfl

theorem Wel.write {L : Nat} {m : MS} (h : Wel L m) (d v y : Int) (hv : I64 v) (hy : I64 y) : Wel L { writeV m d v with pc := y } :=
  ⟨h.rng.write d v y hv hy, fun hw => by
    have hw' : (writeV m d v).way = 0 := hw
    show (writeV m d v).code = 0
    rw [writeV_way] at hw'
    rw [writeV_code]; exact h.cod hw'⟩
theorem Wel.pc' {L : Nat} {m : MS} (h : Wel L m) (y : Int) (hy : I64 y) : Wel L { m with pc := y } := ⟨h.rng.pc' y hy, h.cod⟩
theorem Wel.fault {L : Nat} {m : MS} (h : Wel L m) : Wel L { m with way := 9, code := 0 } := ⟨⟨h.rng.R, h.rng.pc, h.rng.G, h.rng.M⟩, fun _ => rfl⟩
theorem Wel.store {L : Nat} {m : MS} (h : Wel L m) (a : Nat) (v y : Int) (hy : I64 y) : Wel L { m with M := layTo m.M a v 8, pc := y } :=
  ⟨⟨h.rng.R, hy, h.rng.G, lay_range h.rng.M⟩, h.cod⟩
theorem Wel.store' {L : Nat} {m : MS} (h : Wel L m) (a : Nat) (v : Int) : Wel L { m with M := layTo m.M a v 8 } := ⟨⟨h.rng.R, h.rng.pc, h.rng.G, lay_range h.rng.M⟩, h.cod⟩

section
variable {L : Nat} {m : MS} {i : In}
theorem doV_r (h : i.o ≤ 13) : doV L m i = (writeV m i.d (Alu.aluV i.o (m.R i.a.toNat) (m.R i.b.toNat)), wrap64 (m.pc + 4)) := by unfold doV; rw [if_pos h]
theorem doV_i (h1 : ¬ i.o ≤ 13) (h : i.o ≤ 21) : doV L m i = (writeV m i.d (Alu.aluV i.o (m.R i.a.toNat) i.n), wrap64 (m.pc + 4)) := by unfold doV; rw [if_neg h1, if_pos h]
theorem doV_ld (h : i.o = 22) (hh : hasB L (wrap64 (m.R i.a.toNat + i.n)) 8 = true) : doV L m i = (writeV m i.d (ldV m.M (wrap64 (m.R i.a.toNat + i.n)).toNat), wrap64 (m.pc + 4)) := by unfold doV; rw [if_neg (by omega), if_neg (by omega), if_pos h, hh]; rfl
theorem doV_ld_no (h : i.o = 22) (hh : hasB L (wrap64 (m.R i.a.toNat + i.n)) 8 = false) : doV L m i = ({ m with way := 9, code := 0 }, wrap64 (m.pc + 4)) := by unfold doV; rw [if_neg (by omega), if_neg (by omega), if_pos h, hh]; rfl
theorem doV_jalr (h : i.o = 23) : doV L m i = (writeV m i.d (wrap64 (m.pc + 4)), bits .andNot .i64 (wrap64 (m.R i.a.toNat + i.n)) 1) := by unfold doV; rw [if_neg (by omega), if_neg (by omega), if_neg (by omega), if_pos h]
theorem doV_sd (h : i.o = 24) (hh : hasB L (wrap64 (m.R i.a.toNat + i.n)) 8 = true) : doV L m i = ({ m with M := layTo m.M (wrap64 (m.R i.a.toNat + i.n)).toNat (m.R i.b.toNat % 18446744073709551616) 8 }, wrap64 (m.pc + 4)) := by unfold doV; rw [if_neg (by omega), if_neg (by omega), if_neg (by omega), if_neg (by omega), if_pos h, hh]; rfl
theorem doV_sd_no (h : i.o = 24) (hh : hasB L (wrap64 (m.R i.a.toNat + i.n)) 8 = false) : doV L m i = ({ m with way := 9, code := 0 }, wrap64 (m.pc + 4)) := by unfold doV; rw [if_neg (by omega), if_neg (by omega), if_neg (by omega), if_neg (by omega), if_pos h, hh]; rfl
theorem doV_lui (h : i.o = 29) : doV L m i = (writeV m i.d i.n, wrap64 (m.pc + 4)) := by unfold doV; rw [if_neg (by omega), if_neg (by omega), if_neg (by omega), if_neg (by omega), if_neg (by omega), if_pos h]
theorem doV_jal (h : i.o = 30) : doV L m i = (writeV m i.d (wrap64 (m.pc + 4)), wrap64 (m.pc + i.n)) := by unfold doV; rw [if_neg (by omega), if_neg (by omega), if_neg (by omega), if_neg (by omega), if_neg (by omega), if_neg (by omega), if_pos h]
theorem doV_ecall (h : i.o = 31) : doV L m i = (callV m, wrap64 (m.pc + 4)) := by unfold doV; rw [if_neg (by omega), if_neg (by omega), if_neg (by omega), if_neg (by omega), if_neg (by omega), if_neg (by omega), if_neg (by omega), if_pos h]
theorem doV_br (h : 25 ≤ i.o) (h' : i.o ≤ 28) : doV L m i = (m, if goesV i.o (m.R i.a.toNat) (m.R i.b.toNat) then wrap64 (m.pc + i.n) else wrap64 (m.pc + 4)) := by unfold doV; rw [if_neg (by omega), if_neg (by omega), if_neg (by omega), if_neg (by omega), if_neg (by omega), if_neg (by omega), if_neg (by omega), if_neg (by omega)]
end

theorem stepV_some {L : Nat} {m m' : MS} {i : In} {y : Int} (h0 : m.way = 0) (hf : fetV L m.M m.pc = some i) (hd : doV L m i = (m', y)) : stepV L m = if m'.way = 0 then { m' with pc := y } else m' := by
  unfold stepV; rw [if_pos h0, hf]; dsimp only; rw [hd]
theorem stepV_none {L : Nat} {m : MS} (h0 : m.way = 0) (hf : fetV L m.M m.pc = none) : stepV L m = { m with way := 9, code := 0 } := by
  unfold stepV; rw [if_pos h0, hf]

/-- A step keeps it. -/
theorem Wel.step {L : Nat} {m : MS} (h : Wel L m) : Wel L (stepV L m) := by
  by_cases hw : m.way = 0
  · cases hf : fetV L m.M m.pc with
    | none => rw [stepV_none hw hf]; exact h.fault
    | some i =>
      have hrt := fetV_rt hf
      obtain ⟨o1, o2, ⟨d0, d1⟩, ⟨a0, a1⟩, ⟨b0, b1⟩⟩ := In.parts hrt
      obtain ⟨n0, n1⟩ := In.num hrt
      have hn : I64 i.n := ⟨by omega, by omega⟩
      have ha := h.rng.R i.a.toNat (by omega)
      have w4 := wrap64_in (m.pc + 4)
      have key : ∀ (v y : Int), doV L m i = (writeV m i.d v, y) → I64 v → I64 y → Wel L (stepV L m) := fun v y hd hv hy => by
        rw [stepV_some hw hf hd, if_pos (by rw [writeV_way]; exact hw)]
        exact h.write _ v y hv hy
      have flt : ∀ y, doV L m i = ({ m with way := 9, code := 0 }, y) → Wel L (stepV L m) := fun y hd => by
        rw [stepV_some hw hf hd, if_neg (by simp)]; exact h.fault
      by_cases c1 : i.o ≤ 13
      · exact key _ _ (doV_r c1) (alu_in _ _ _ ha) w4
      by_cases c2 : i.o ≤ 21
      · exact key _ _ (doV_i c1 c2) (alu_in _ _ _ ha) w4
      by_cases c3 : i.o = 22
      · cases hh : hasB L (wrap64 (m.R i.a.toNat + i.n)) 8 with
        | true => exact key _ _ (doV_ld c3 hh) (ldV_rng _ _) w4
        | false => exact flt _ (doV_ld_no c3 hh)
      by_cases c4 : i.o = 23
      · exact key _ _ (doV_jalr c4) w4 (bits_in _ _ _)
      by_cases c5 : i.o = 24
      · cases hh : hasB L (wrap64 (m.R i.a.toNat + i.n)) 8 with
        | true => rw [stepV_some hw hf (doV_sd c5 hh), if_pos (by exact hw)]; exact h.store _ _ _ w4
        | false => exact flt _ (doV_sd_no c5 hh)
      by_cases c6 : i.o = 29
      · exact key _ _ (doV_lui c6) hn w4
      by_cases c7 : i.o = 30
      · exact key _ _ (doV_jal c7) w4 (wrap64_in _)
      by_cases c8 : i.o = 31
      · have hc : Wel L (callV m) := ⟨h.rng.call, callV_code (h.cod hw)⟩
        rw [stepV_some hw hf (doV_ecall c8)]
        by_cases hy : (callV m).way = 0
        · rw [if_pos hy]; exact hc.pc' _ w4
        · rw [if_neg hy]; exact hc
      rw [stepV_some hw hf (doV_br (by omega) (by omega)), if_pos hw]
      refine h.pc' _ ?_
      cases goesV i.o (m.R i.a.toNat) (m.R i.b.toNat) with
      | true => exact wrap64_in _
      | false => exact w4
  · rw [stepV_ended hw]; exact h

theorem Wel.run {L : Nat} (k : Nat) {m : MS} (h : Wel L m) : Wel L (runV L k m) := by
  induction k generalizing m with
  | zero => exact h
  | succ k ih => exact ih h.step

theorem wel_new {L : Nat} {ws G : List Int} (hL : L ≤ 65536) (hG : ∀ x ∈ G, I64 x) : Wel L (newV L ws G) := by
  refine ⟨⟨fun i hi => ?_, by constructor <;> (show _; simp [newV]), hG, fun i _ => layW_rng ws _ i⟩, fun _ => rfl⟩
  show I64 (upd (fun _ => 0) 2 (L : Int) i)
  unfold upd
  split
  · constructor <;> omega
  · show I64 0
    constructor <;> omega
end Go.Proofs.YtaodcpdkobhmfaaDoor
