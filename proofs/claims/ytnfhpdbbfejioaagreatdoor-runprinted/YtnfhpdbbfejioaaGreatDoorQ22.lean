/- HD -/
import Derived.Test.YtnfhpdbbfejioaaGreatDoorQ21
namespace Go.Proofs.YtnfhpdbbfejioaaGreatDoor
set_option linter.unusedVariables false
set_option linter.unusedSimpArgs false
set_option maxRecDepth 100000
set_option maxHeartbeats 4000000
open Go Go.RowKit
abbrev lst24 (c1 c2 c3 a1 a2 a3 : Bool) : Array Bool := #[true, true, true, true, true, c1, true, true, true, true, true, c2, true, true, true, true, true, c3, a1, a2, a3, false, false, false]
abbrev fr27 (P b o qv nt ct ne c9 : Nat) (pt pe : Option Addr) (x13 x19 x25 x5 x6 x7 : Value) : Act := { tmps := #[ptr P, .pointer (some ⟨b, o, none⟩), undef, undef, .nilFunc, x5, x6, x7, ptr P, .pointer (some ⟨b, o, none⟩), .pointer (some ⟨b, o, none⟩), .pointer (some ⟨b, o + 4, none⟩), ptr qv, x13, ptr P, .pointer (some ⟨b, o, none⟩), .pointer (some ⟨b, o, none⟩), .pointer (some ⟨b, o + 5, none⟩), .slice pt nt ct, x19, ptr P, .pointer (some ⟨b, o, none⟩), .pointer (some ⟨b, o, none⟩), .pointer (some ⟨b, o + 6, none⟩), .slice pe ne c9, x25, undef], defers := [] }
theorem choice_walk {a : Int} {nm : By} {ix v th el : Tr} (hv : CmE v) (hnv : IsNd v) (ht : CmB th) (he : CmB el) (S : Nat → Prop) (w : World) (P b o : Nat) (vi vv : Option Addr) (vt ve : Value) (h : StM S w b o 4 a nm ix v th el vi vv vt ve) : Calls Tryz.prog 136 #[ptr P, .pointer (some ⟨b, o, none⟩)] w (CsP P (st 4 a nm ix v th el) w) := by
 obtain ⟨qv, hqv⟩ := q_ hnv h.v
 injection hqv with hqv
 subst hqv
 have HSt : Hid (StM S w b o 4 a nm ix v th el vi (some ⟨qv, 0, none⟩) vt ve) := h
 obtain ⟨⟨cs, h1, _, _, _, k4, k5, k6⟩, _, _, ⟨nt, ts, h5, h6⟩, ⟨ne, es, h7, h8⟩⟩ := h
 obtain ⟨pt, ct, rfl⟩ : ∃ p c, vt = .slice p nt c := by
  rcases h5.1.2 with ⟨rfl, rfl⟩ | ⟨g, cap, cur, rfl, _⟩
  ·exact ⟨_, _, rfl⟩
  ·exact ⟨_, _, rfl⟩
 obtain ⟨pe, c9, rfl⟩ : ∃ p c, ve = .slice p ne c := by
  rcases h7.1.2 with ⟨rfl, rfl⟩ | ⟨g, cap, cur, rfl, _⟩
  ·exact ⟨_, _, rfl⟩
  ·exact ⟨_, _, rfl⟩
 have hb1 : b < w.heap.size := (Array.getElem?_eq_some_iff.1 h1).1
 have HK : Hid (∀ W, Below w.heap.size w W → W.cell? ⟨b, o + 4, none⟩ = some (ptr qv) ∧ W.cell? ⟨b, o + 5, none⟩ = some (.slice pt nt ct) ∧ W.cell? ⟨b, o + 6, none⟩ = some (.slice pe ne c9)) := fun W hb => by
  have hB := zx hb h1
  exact ⟨z_ hB k4, z_ hB k5, z_ hB k6⟩
 have HC1 : Hid (∀ W, Below w.heap.size w W → Calls Tryz.prog 138 #[ptr P, ptr qv] W (CmP P v W)) := fun W hb => hv S W P _ (zD hb HSt.out.v)
 have HC2 : Hid (∀ W, Below w.heap.size w W → Calls Tryz.prog 53 #[ptr P, .slice pt nt ct] W (BlP P th W)) := fun W hb => ht S W P _ nt ts (h5.kept (qa hb) (by decide)) (StAt.kept (qa hb) _ _ h6)
 have HC3 : Hid (∀ W, Below w.heap.size w W → Calls Tryz.prog 53 #[ptr P, .slice pe ne c9] W (BlP P el W)) := fun W hb => he S W P _ ne es (h7.kept (qa hb) (by decide)) (StAt.kept (qa hb) _ _ h8)
 have hmf := mkf
 clear h1 k4 k5 k6 h5 h6 h7 h8 hv hnv ht he
 go_enter Tryz.func136, Tryz.ntmps136
 go_upto_region 1 with fail
 go_cut [5, 6, 7] (fun v5 v6 v7 wx => ∃ b5 b6 b7 x13 x19 x25, v5 = ptr b5 ∧ v6 = ptr b6 ∧ v7 = ptr b7 ∧ Hid (wx.heap[b5]? = some (.cells #[x13] 245) ∧ wx.heap[b6]? = some (.cells #[x19] 67) ∧ wx.heap[b7]? = some (.cells #[x25] 67) ∧ ClE wx P v x13 ∧ BlV wx P th x19 ∧ BlV wx P el x25 ∧ Below w.heap.size w wx))
 case first =>
  refine wp_region_held_drew (S := fun w' => w'.cell? ⟨b, o + 4, none⟩ = some (ptr qv) ∧ w'.cell? ⟨b, o + 5, none⟩ = some (.slice pt nt ct) ∧ w'.cell? ⟨b, o + 6, none⟩ = some (.slice pe ne c9)) (by kernel_rfl) ?_ (fun hHeld => ?_)
  ·exact HK.out _ (Below.refl _ _).drew
  refine wpAnyH_take (i := 0) (v := ?val0) rfl (by kernel_rfl) (by kernel_rfl) (by kernel_rfl) (fun _ _ _ h => h) (Or.inl ⟨by rfl, ?hy0⟩) hHeld ?go0
  case hy0 => (intro w hSw; (try dsimp only at hSw); go_simp; try rfl)
  case go0 =>
  simp only [Act.put, List.setIfInBounds_toArray, List.set_cons_zero, List.set_cons_succ, List.getElem_toArray, List.getElem_cons_zero, List.getElem_cons_succ]
  refine wpAnyH_take (i := 1) (v := ?val1) rfl (by kernel_rfl) (by kernel_rfl) (by kernel_rfl) (fun _ _ _ h => h) (Or.inl ⟨by rfl, ?hy1⟩) hHeld ?go1
  case hy1 => (intro w hSw; (try dsimp only at hSw); go_simp; try rfl)
  case go1 =>
  simp only [Act.put, List.setIfInBounds_toArray, List.set_cons_zero, List.set_cons_succ, List.getElem_toArray, List.getElem_cons_zero, List.getElem_cons_succ]
  refine wpAnyH_take (i := 2) (v := ?val2) rfl (by kernel_rfl) (by kernel_rfl) (by kernel_rfl) (fun _ _ _ h => h) (Or.inl ⟨by rfl, ?hy2⟩) hHeld ?go2
  case hy2 => (intro w hSw; (try dsimp only at hSw); go_simp; try rfl)
  case go2 =>
  simp only [Act.put, List.setIfInBounds_toArray, List.set_cons_zero, List.set_cons_succ, List.getElem_toArray, List.getElem_cons_zero, List.getElem_cons_succ]
  refine wpAnyH_take (i := 3) (v := ?val3) rfl (by kernel_rfl) (by kernel_rfl) (by kernel_rfl) (fun _ _ _ h => h) (Or.inl ⟨by rfl, ?hy3⟩) hHeld ?go3
  case hy3 => (intro w hSw; (try dsimp only at hSw); go_simp; try rfl)
  case go3 =>
  simp only [Act.put, List.setIfInBounds_toArray, List.set_cons_zero, List.set_cons_succ, List.getElem_toArray, List.getElem_cons_zero, List.getElem_cons_succ]
  refine wpAnyH_take (i := 4) (v := ?val4) rfl (by kernel_rfl) (by kernel_rfl) (by kernel_rfl) (fun _ _ _ h => h) (Or.inl ⟨by rfl, ?hy4⟩) hHeld ?go4
  case hy4 => (intro w hSw; (try dsimp only at hSw); go_simp; try rfl)
  case go4 =>
  simp only [Act.put, List.setIfInBounds_toArray, List.set_cons_zero, List.set_cons_succ, List.getElem_toArray, List.getElem_cons_zero, List.getElem_cons_succ]
  refine wpAnyH_take (i := 6) (v := ?val6) rfl (by kernel_rfl) (by kernel_rfl) (by kernel_rfl) (fun _ _ _ h => h) (Or.inl ⟨by rfl, ?hy6⟩) hHeld ?go6
  case hy6 => (intro w hSw; (try dsimp only at hSw); go_simp; try rfl)
  case go6 =>
  simp only [Act.put, List.setIfInBounds_toArray, List.set_cons_zero, List.set_cons_succ, List.getElem_toArray, List.getElem_cons_zero, List.getElem_cons_succ]
  refine wpAnyH_take (i := 7) (v := ?val7) rfl (by kernel_rfl) (by kernel_rfl) (by kernel_rfl) (fun _ _ _ h => h) (Or.inl ⟨by rfl, ?hy7⟩) hHeld ?go7
  case hy7 => (intro w hSw; (try dsimp only at hSw); go_simp; try rfl)
  case go7 =>
  simp only [Act.put, List.setIfInBounds_toArray, List.set_cons_zero, List.set_cons_succ, List.getElem_toArray, List.getElem_cons_zero, List.getElem_cons_succ]
  refine wpAnyH_take (i := 8) (v := ?val8) rfl (by kernel_rfl) (by kernel_rfl) (by kernel_rfl) (fun _ _ _ h => h) (Or.inl ⟨by rfl, ?hy8⟩) hHeld ?go8
  case hy8 => (intro w hSw; (try dsimp only at hSw); go_simp; try rfl)
  case go8 =>
  simp only [Act.put, List.setIfInBounds_toArray, List.set_cons_zero, List.set_cons_succ, List.getElem_toArray, List.getElem_cons_zero, List.getElem_cons_succ]
  refine wpAnyH_take (i := 9) (v := ?val9) rfl (by kernel_rfl) (by kernel_rfl) (by kernel_rfl) (fun _ _ _ h => h) (Or.inl ⟨by rfl, ?hy9⟩) hHeld ?go9
  case hy9 => (intro w hSw; (try dsimp only at hSw); go_simp; try rfl)
  case go9 =>
  simp only [Act.put, List.setIfInBounds_toArray, List.set_cons_zero, List.set_cons_succ, List.getElem_toArray, List.getElem_cons_zero, List.getElem_cons_succ]
  refine wpAnyH_take (i := 10) (v := ?val10) rfl (by kernel_rfl) (by kernel_rfl) (by kernel_rfl) (fun _ _ _ h => h) (Or.inl ⟨by rfl, ?hy10⟩) hHeld ?go10
  case hy10 => (intro w hSw; (try dsimp only at hSw); go_simp; try rfl)
  case go10 =>
  simp only [Act.put, List.setIfInBounds_toArray, List.set_cons_zero, List.set_cons_succ, List.getElem_toArray, List.getElem_cons_zero, List.getElem_cons_succ]
  refine wpAnyH_take (i := 12) (v := ?val12) rfl (by kernel_rfl) (by kernel_rfl) (by kernel_rfl) (fun _ _ _ h => h) (Or.inl ⟨by rfl, ?hy12⟩) hHeld ?go12
  case hy12 => (intro w hSw; (try dsimp only at hSw); go_simp; try rfl)
  case go12 =>
  simp only [Act.put, List.setIfInBounds_toArray, List.set_cons_zero, List.set_cons_succ, List.getElem_toArray, List.getElem_cons_zero, List.getElem_cons_succ]
  refine wpAnyH_take (i := 13) (v := ?val13) rfl (by kernel_rfl) (by kernel_rfl) (by kernel_rfl) (fun _ _ _ h => h) (Or.inl ⟨by rfl, ?hy13⟩) hHeld ?go13
  case hy13 => (intro w hSw; (try dsimp only at hSw); go_simp; try rfl)
  case go13 =>
  simp only [Act.put, List.setIfInBounds_toArray, List.set_cons_zero, List.set_cons_succ, List.getElem_toArray, List.getElem_cons_zero, List.getElem_cons_succ]
  refine wpAnyH_take (i := 14) (v := ?val14) rfl (by kernel_rfl) (by kernel_rfl) (by kernel_rfl) (fun _ _ _ h => h) (Or.inl ⟨by rfl, ?hy14⟩) hHeld ?go14
  case hy14 => (intro w hSw; (try dsimp only at hSw); go_simp; try rfl)
  case go14 =>
  simp only [Act.put, List.setIfInBounds_toArray, List.set_cons_zero, List.set_cons_succ, List.getElem_toArray, List.getElem_cons_zero, List.getElem_cons_succ]
  refine wpAnyH_take (i := 15) (v := ?val15) rfl (by kernel_rfl) (by kernel_rfl) (by kernel_rfl) (fun _ _ _ h => h) (Or.inl ⟨by rfl, ?hy15⟩) hHeld ?go15
  case hy15 => (intro w hSw; (try dsimp only at hSw); go_simp; try rfl)
  case go15 =>
  simp only [Act.put, List.setIfInBounds_toArray, List.set_cons_zero, List.set_cons_succ, List.getElem_toArray, List.getElem_cons_zero, List.getElem_cons_succ]
  refine wpAnyH_take (i := 16) (v := ?val16) rfl (by kernel_rfl) (by kernel_rfl) (by kernel_rfl) (fun _ _ _ h => h) (Or.inl ⟨by rfl, ?hy16⟩) hHeld ?go16
  case hy16 => (intro w hSw; (try dsimp only at hSw); go_simp; try rfl)
  case go16 =>
  simp only [Act.put, List.setIfInBounds_toArray, List.set_cons_zero, List.set_cons_succ, List.getElem_toArray, List.getElem_cons_zero, List.getElem_cons_succ]
  refine wpAnyH_meet (stop := lst24 true true true true true true) (n := 3) (I := fun listed a' w' => ∃ c1 c2 c3 a1 a2 a3 x13 x19 x25 x5 x6 x7, listed = lst24 c1 c2 c3 a1 a2 a3 ∧ a' = fr27 P b o qv nt ct ne c9 pt pe x13 x19 x25 x5 x6 x7 ∧ ChI w P v th el c1 c2 c3 a1 a2 a3 x13 x19 x25 x5 x6 x7 w') rfl ?step ?stop ?cnt _ _ _ _ ⟨false, false, false, false, false, false, undef, undef, undef, undef, undef, undef, by kernel_rfl, rfl, ?beg⟩ (by kernel_rfl) (by first | omega | decide)
  case beg => exact ⟨(Below.refl _ _).drew, fun e => (by cases e), fun e => (by cases e), fun e => (by cases e), fun e => (by cases e), fun e => (by cases e), fun e => (by cases e), fun e => (by cases e), fun e => (by cases e), fun e => (by cases e)⟩
  case cnt =>
   rintro listed a' w' ⟨c1, c2, c3, a1, a2, a3, x13, x19, x25, x5, x6, x7, rfl, _, _⟩ hc
   revert hc
   cases c1 <;> cases c2 <;> cases c3 <;> cases a1 <;> cases a2 <;> cases a3 <;> first | exact fun _ => rfl | exact fun h => absurd h (by decide)
  case step =>
   rintro listed a' w' ⟨c1, c2, c3, a1, a2, a3, x13, x19, x25, x5, x6, x7, rfl, rfl, hI⟩ hs
   refine ⟨?_, fun i hi => ?_⟩
   ·have o2 := hI.o2
    have o3 := hI.o3
    clear hI
    revert hs o2 o3
    cases c1 <;> cases c2 <;> cases c3 <;> cases a1 <;> cases a2 <;> cases a3 <;> first | exact fun _ _ _ => by decide +kernel | exact fun h _ _ => absurd rfl h | exact fun _ h _ => absurd (h rfl) (by decide) | exact fun _ _ h => absurd (h rfl) (by decide)
   ·obtain ⟨h0, o', ho', -⟩ := mem_ready.1 hi
    have h24 : i < 24 := (Array.getElem?_eq_some_iff.1 ho').1
    clear ho' o'
    have hcs : i = 5 ∨ i = 11 ∨ i = 17 ∨ i = 18 ∨ i = 19 ∨ i = 20 ∨ i = 21 ∨ i = 22 ∨ i = 23 := by
     have hd : ∀ j : Fin 24, (j.val = 5 ∨ j.val = 11 ∨ j.val = 17 ∨ j.val = 18 ∨ j.val = 19 ∨ j.val = 20 ∨ j.val = 21 ∨ j.val = 22 ∨ j.val = 23) ∨ (lst24 c1 c2 c3 a1 a2 a3).getD j.val true = true := by
      cases c1 <;> cases c2 <;> cases c3 <;> cases a1 <;> cases a2 <;> cases a3 <;> decide +kernel
     rcases hd ⟨i, h24⟩ with h | h
     ·exact h
     ·rw [h0] at h; cases h
    clear h24 h0
    rcases hcs with rfl | rfl | rfl | rfl | rfl | rfl | rfl | rfl | rfl
    ·refine wpOp_step (o := { dst := some 13, op := Op.call { callee := Callee.value (Operand.func 138), args := #[Operand.tmp 8, Operand.tmp 12], argTypes := #[57, 145] }, type := 245, pos := "stmt.go:56", after := #[{ on := 0, ground := Ground.data }, { on := 4, ground := Ground.data }], guard := none }) rfl (fun K hK => ?_)
     go_simp
     refine (HC1.out w' hI.bel).mono ?_
     rintro e w1 ⟨k1, cp1, rfl, hcl, hb1⟩
     have hI2 := hI.call1 hb1 hcl
     exact hK _ _ ⟨HK.out _ hI2.bel, true, c2, c3, a1, a2, a3, _, x19, x25, x5, x6, x7, rfl, rfl, hI2⟩
    ·have q1 : c1 = true := (z8 hi (o := { dst := some 19, op := Op.call { callee := Callee.value (Operand.func 53), args := #[Operand.tmp 14, Operand.tmp 18], argTypes := #[57, 84] }, type := 67, pos := "stmt.go:56", after := #[{ on := 6, ground := Ground.data }, { on := 10, ground := Ground.data }, { on := 5, ground := Ground.chain }], guard := none }) rfl).2 ⟨5, .chain⟩ (by simp) rfl
     refine wpOp_step (o := { dst := some 19, op := Op.call { callee := Callee.value (Operand.func 53), args := #[Operand.tmp 14, Operand.tmp 18], argTypes := #[57, 84] }, type := 67, pos := "stmt.go:56", after := #[{ on := 6, ground := Ground.data }, { on := 10, ground := Ground.data }, { on := 5, ground := Ground.chain }], guard := none }) rfl (fun K hK => ?_)
     go_simp
     refine (HC2.out w' hI.bel).mono ?_
     rintro e w1 ⟨cp1, rfl, hcl, hb1⟩
     have hI2 := hI.call2 q1 hb1 hcl
     exact hK _ _ ⟨HK.out _ hI2.bel, c1, true, c3, a1, a2, a3, x13, _, x25, x5, x6, x7, rfl, rfl, hI2⟩
    ·have q1 : c2 = true := (z8 hi (o := { dst := some 25, op := Op.call { callee := Callee.value (Operand.func 53), args := #[Operand.tmp 20, Operand.tmp 24], argTypes := #[57, 84] }, type := 67, pos := "stmt.go:56", after := #[{ on := 12, ground := Ground.data }, { on := 16, ground := Ground.data }, { on := 11, ground := Ground.chain }], guard := none }) rfl).2 ⟨11, .chain⟩ (by simp) rfl
     refine wpOp_step (o := { dst := some 25, op := Op.call { callee := Callee.value (Operand.func 53), args := #[Operand.tmp 20, Operand.tmp 24], argTypes := #[57, 84] }, type := 67, pos := "stmt.go:56", after := #[{ on := 12, ground := Ground.data }, { on := 16, ground := Ground.data }, { on := 11, ground := Ground.chain }], guard := none }) rfl (fun K hK => ?_)
     go_simp
     refine (HC3.out w' hI.bel).mono ?_
     rintro e w1 ⟨cp1, rfl, hcl, hb1⟩
     have hI2 := hI.call3 q1 hb1 hcl
     exact hK _ _ ⟨HK.out _ hI2.bel, c1, c2, true, a1, a2, a3, x13, x19, _, x5, x6, x7, rfl, rfl, hI2⟩
    ·refine wpOp_step (o := { dst := some 5, op := Op.alloc 245, type := 0, pos := "stmt.go:56", after := #[], guard := none }) rfl (fun K hK => ?_)
     go_simp
     have hI2 := hI.new1
     exact hK _ _ ⟨HK.out _ hI2.bel, c1, c2, c3, true, a2, a3, x13, x19, x25, _, x6, x7, rfl, rfl, hI2⟩
    ·refine wpOp_step (o := { dst := some 6, op := Op.alloc 67, type := 0, pos := "stmt.go:56", after := #[], guard := none }) rfl (fun K hK => ?_)
     go_simp
     have hI2 := hI.new2
     exact hK _ _ ⟨HK.out _ hI2.bel, c1, c2, c3, a1, true, a3, x13, x19, x25, x5, _, x7, rfl, rfl, hI2⟩
    ·refine wpOp_step (o := { dst := some 7, op := Op.alloc 67, type := 0, pos := "stmt.go:56", after := #[], guard := none }) rfl (fun K hK => ?_)
     go_simp
     have hI2 := hI.new3
     exact hK _ _ ⟨HK.out _ hI2.bel, c1, c2, c3, a1, a2, true, x13, x19, x25, x5, x6, _, rfl, rfl, hI2⟩
    ·exfalso
     have ra := (z8 hi (o := { dst := none, op := Op.store 245 (Operand.tmp 5) (Operand.tmp 13), type := 0, pos := "stmt.go:56", after := #[{ on := 18, ground := Ground.data }, { on := 5, ground := Ground.data }, { on := 17, ground := Ground.chain }, { on := 0, ground := Ground.phase }, { on := 1, ground := Ground.phase }, { on := 2, ground := Ground.phase }, { on := 3, ground := Ground.phase }, { on := 4, ground := Ground.phase }, { on := 5, ground := Ground.phase }, { on := 6, ground := Ground.textOnly Departure.lateStores }, { on := 7, ground := Ground.textOnly Departure.lateStores }, { on := 8, ground := Ground.textOnly Departure.lateStores }, { on := 9, ground := Ground.textOnly Departure.lateStores }, { on := 10, ground := Ground.textOnly Departure.lateStores }, { on := 11, ground := Ground.textOnly Departure.lateStoresUnsure }, { on := 12, ground := Ground.textOnly Departure.lateStores }, { on := 13, ground := Ground.textOnly Departure.lateStores }, { on := 14, ground := Ground.textOnly Departure.lateStores }, { on := 15, ground := Ground.textOnly Departure.lateStores }, { on := 16, ground := Ground.textOnly Departure.lateStores }, { on := 17, ground := Ground.textOnly Departure.lateStoresUnsure }, { on := 18, ground := Ground.phase }, { on := 19, ground := Ground.phase }, { on := 20, ground := Ground.phase }], guard := none }) rfl).2
     have q3 : c3 = true := ra ⟨17, .chain⟩ (by simp) rfl
     have q2 : c2 = true := hI.o3 q3
     have q1 : c1 = true := hI.o2 q2
     have r1 : a1 = true := ra ⟨18, .phase⟩ (by simp) rfl
     have r2 : a2 = true := ra ⟨19, .phase⟩ (by simp) rfl
     have r3 : a3 = true := ra ⟨20, .phase⟩ (by simp) rfl
     subst q1 q2 q3 r1 r2 r3
     exact hs rfl
    ·have q : false = true := (z8 hi (o := { dst := none, op := Op.store 67 (Operand.tmp 6) (Operand.tmp 19), type := 0, pos := "stmt.go:56", after := #[{ on := 19, ground := Ground.data }, { on := 11, ground := Ground.data }, { on := 21, ground := Ground.chain }, { on := 0, ground := Ground.phase }, { on := 1, ground := Ground.phase }, { on := 2, ground := Ground.phase }, { on := 3, ground := Ground.phase }, { on := 4, ground := Ground.phase }, { on := 5, ground := Ground.phase }, { on := 6, ground := Ground.phase }, { on := 7, ground := Ground.phase }, { on := 8, ground := Ground.phase }, { on := 9, ground := Ground.phase }, { on := 10, ground := Ground.phase }, { on := 11, ground := Ground.phase }, { on := 12, ground := Ground.textOnly Departure.lateStores }, { on := 13, ground := Ground.textOnly Departure.lateStores }, { on := 14, ground := Ground.textOnly Departure.lateStores }, { on := 15, ground := Ground.textOnly Departure.lateStores }, { on := 16, ground := Ground.textOnly Departure.lateStores }, { on := 17, ground := Ground.textOnly Departure.lateStoresUnsure }, { on := 18, ground := Ground.phase }, { on := 19, ground := Ground.phase }, { on := 20, ground := Ground.phase }, { on := 21, ground := Ground.phase }], guard := none }) rfl).2 ⟨21, .chain⟩ (by simp) rfl
     cases q
    ·have q : false = true := (z8 hi (o := { dst := none, op := Op.store 67 (Operand.tmp 7) (Operand.tmp 25), type := 0, pos := "stmt.go:56", after := #[{ on := 20, ground := Ground.data }, { on := 17, ground := Ground.data }, { on := 22, ground := Ground.chain }, { on := 0, ground := Ground.phase }, { on := 1, ground := Ground.phase }, { on := 2, ground := Ground.phase }, { on := 3, ground := Ground.phase }, { on := 4, ground := Ground.phase }, { on := 5, ground := Ground.phase }, { on := 6, ground := Ground.phase }, { on := 7, ground := Ground.phase }, { on := 8, ground := Ground.phase }, { on := 9, ground := Ground.phase }, { on := 10, ground := Ground.phase }, { on := 11, ground := Ground.phase }, { on := 12, ground := Ground.phase }, { on := 13, ground := Ground.phase }, { on := 14, ground := Ground.phase }, { on := 15, ground := Ground.phase }, { on := 16, ground := Ground.phase }, { on := 17, ground := Ground.phase }, { on := 18, ground := Ground.phase }, { on := 19, ground := Ground.phase }, { on := 20, ground := Ground.phase }, { on := 21, ground := Ground.phase }, { on := 22, ground := Ground.phase }], guard := none }) rfl).2 ⟨22, .chain⟩ (by simp) rfl
     cases q
  case stop =>
   rintro a' w' ⟨c1, c2, c3, a1, a2, a3, x13, x19, x25, x5, x6, x7, hl, rfl, hI⟩
   have hl2 : c1 = true ∧ c2 = true ∧ c3 = true ∧ a1 = true ∧ a2 = true ∧ a3 = true := by
    simp only [lst24, Array.mk.injEq, List.cons.injEq, true_and, and_true] at hl
    exact ⟨hl.1.symm, hl.2.1.symm, hl.2.2.1.symm, hl.2.2.2.1.symm, hl.2.2.2.2.1.symm, hl.2.2.2.2.2.symm⟩
   obtain ⟨rfl, rfl, rfl, rfl, rfl, rfl⟩ := hl2
   obtain ⟨⟨k1, cp1, rfl⟩, -⟩ := hI.e1 rfl
   obtain ⟨q1, q2, -, -, rfl, -⟩ := hI.e2 rfl
   obtain ⟨r1, r2, -, -, rfl, -⟩ := hI.e3 rfl
   obtain ⟨b5, rfl, l5, g5⟩ := hI.b1 rfl
   obtain ⟨b6, rfl, l6, g6⟩ := hI.b2 rfl
   obtain ⟨b7, rfl, l7, g7⟩ := hI.b3 rfl
   have n56 : b5 ≠ b6 := fun e => by subst e; rw [g5] at g6; injection g6 with g6; injection g6 with _ g6; cases g6
   have n57 : b5 ≠ b7 := fun e => by subst e; rw [g5] at g7; injection g7 with g7; injection g7 with _ g7; cases g7
   have n67 : b6 ≠ b7 := fun e => hI.ne rfl rfl (by rw [e])
   have z5 : w'.cell? ⟨b5, 0, none⟩ = some .nilFunc := z_ (i := 0) g5 rfl
   have z6 : w'.cell? ⟨b6, 0, none⟩ = some .nilFunc := z_ (i := 0) g6 rfl
   have z7 : w'.cell? ⟨b7, 0, none⟩ = some .nilFunc := z_ (i := 0) g7 rfl
   have y5 : w'.frozen? ⟨b5, 0, none⟩ = false := by simp [World.frozen?, g5]
   have y6 : w'.frozen? ⟨b6, 0, none⟩ = false := by simp [World.frozen?, g6]
   have y7 : w'.frozen? ⟨b7, 0, none⟩ = false := by simp [World.frozen?, g7]
   have HF : Hid (_ ∧ _ ∧ _ ∧ _ ∧ _ ∧ _ ∧ _) := hI.stored
   have HBl : Hid (Below w.heap.size w w') := hI.bel
   clear hI hl g5 g6 g7
   refine wpAnyH_ready (rs := [21]) (by kernel_rfl) (by simp) ?_
   refine AllReadyH.cons (o := { dst := none, op := Op.store 245 (Operand.tmp 5) (Operand.tmp 13), type := 0, pos := "stmt.go:56", after := #[{ on := 18, ground := Ground.data }, { on := 5, ground := Ground.data }, { on := 17, ground := Ground.chain }, { on := 0, ground := Ground.phase }, { on := 1, ground := Ground.phase }, { on := 2, ground := Ground.phase }, { on := 3, ground := Ground.phase }, { on := 4, ground := Ground.phase }, { on := 5, ground := Ground.phase }, { on := 6, ground := Ground.textOnly Departure.lateStores }, { on := 7, ground := Ground.textOnly Departure.lateStores }, { on := 8, ground := Ground.textOnly Departure.lateStores }, { on := 9, ground := Ground.textOnly Departure.lateStores }, { on := 10, ground := Ground.textOnly Departure.lateStores }, { on := 11, ground := Ground.textOnly Departure.lateStoresUnsure }, { on := 12, ground := Ground.textOnly Departure.lateStores }, { on := 13, ground := Ground.textOnly Departure.lateStores }, { on := 14, ground := Ground.textOnly Departure.lateStores }, { on := 15, ground := Ground.textOnly Departure.lateStores }, { on := 16, ground := Ground.textOnly Departure.lateStores }, { on := 17, ground := Ground.textOnly Departure.lateStoresUnsure }, { on := 18, ground := Ground.phase }, { on := 19, ground := Ground.phase }, { on := 20, ground := Ground.phase }], guard := none }) rfl (fun K hK => ?_) AllReadyH.nil
   go_simp
   refine hK _ _ (HK.out _ (HBl.out.setCell (p := ⟨b5, 0, none⟩) l5 _)) (fun _ => ?_)
   clear hK K
   refine wpAnyH_ready (rs := [22]) (by kernel_rfl) (by simp) ?_
   refine AllReadyH.cons (o := { dst := none, op := Op.store 67 (Operand.tmp 6) (Operand.tmp 19), type := 0, pos := "stmt.go:56", after := #[{ on := 19, ground := Ground.data }, { on := 11, ground := Ground.data }, { on := 21, ground := Ground.chain }, { on := 0, ground := Ground.phase }, { on := 1, ground := Ground.phase }, { on := 2, ground := Ground.phase }, { on := 3, ground := Ground.phase }, { on := 4, ground := Ground.phase }, { on := 5, ground := Ground.phase }, { on := 6, ground := Ground.phase }, { on := 7, ground := Ground.phase }, { on := 8, ground := Ground.phase }, { on := 9, ground := Ground.phase }, { on := 10, ground := Ground.phase }, { on := 11, ground := Ground.phase }, { on := 12, ground := Ground.textOnly Departure.lateStores }, { on := 13, ground := Ground.textOnly Departure.lateStores }, { on := 14, ground := Ground.textOnly Departure.lateStores }, { on := 15, ground := Ground.textOnly Departure.lateStores }, { on := 16, ground := Ground.textOnly Departure.lateStores }, { on := 17, ground := Ground.textOnly Departure.lateStoresUnsure }, { on := 18, ground := Ground.phase }, { on := 19, ground := Ground.phase }, { on := 20, ground := Ground.phase }, { on := 21, ground := Ground.phase }], guard := none }) rfl (fun K hK => ?_) AllReadyH.nil
   go_simp
   refine hK _ _ (HK.out _ ((HBl.out.setCell (p := ⟨b5, 0, none⟩) l5 _).setCell (p := ⟨b6, 0, none⟩) l6 _)) (fun _ => ?_)
   clear hK K
   refine wpAnyH_ready (rs := [23]) (by kernel_rfl) (by simp) ?_
   refine AllReadyH.cons (o := { dst := none, op := Op.store 67 (Operand.tmp 7) (Operand.tmp 25), type := 0, pos := "stmt.go:56", after := #[{ on := 20, ground := Ground.data }, { on := 17, ground := Ground.data }, { on := 22, ground := Ground.chain }, { on := 0, ground := Ground.phase }, { on := 1, ground := Ground.phase }, { on := 2, ground := Ground.phase }, { on := 3, ground := Ground.phase }, { on := 4, ground := Ground.phase }, { on := 5, ground := Ground.phase }, { on := 6, ground := Ground.phase }, { on := 7, ground := Ground.phase }, { on := 8, ground := Ground.phase }, { on := 9, ground := Ground.phase }, { on := 10, ground := Ground.phase }, { on := 11, ground := Ground.phase }, { on := 12, ground := Ground.phase }, { on := 13, ground := Ground.phase }, { on := 14, ground := Ground.phase }, { on := 15, ground := Ground.phase }, { on := 16, ground := Ground.phase }, { on := 17, ground := Ground.phase }, { on := 18, ground := Ground.phase }, { on := 19, ground := Ground.phase }, { on := 20, ground := Ground.phase }, { on := 21, ground := Ground.phase }, { on := 22, ground := Ground.phase }], guard := none }) rfl (fun K hK => ?_) AllReadyH.nil
   go_simp
   refine hK _ _ (HK.out _ (((HBl.out.setCell (p := ⟨b5, 0, none⟩) l5 _).setCell (p := ⟨b6, 0, none⟩) l6 _).setCell (p := ⟨b7, 0, none⟩) l7 _)) (fun _ => ?_)
   clear hK K
   refine wpAnyH_done (by kernel_rfl) ?_ _
   go_wp2_with fail
   go_meet
   exact ⟨b5, b6, b7, _, _, _, rfl, rfl, rfl, HF.out⟩
 case rest =>
  obtain ⟨b5, b6, b7, x13, x19, x25, rfl, rfl, rfl, HF⟩ := hcut
  go_wp2
  go_ret
  obtain ⟨f1, f2, f3, f4, ⟨a1, p1, g1, t1, e1, f5, f6, f7, f8⟩, ⟨a2, p2, g2, t2, e2, m5, m6, m7, m8⟩, f9⟩ := HF.out
  refine ⟨_, _, rfl, ?_, f9⟩
  rw [ClB]
  exact ⟨_, [], rfl, by rw [ClB], .inr (.inl ⟨rfl, b5, b6, b7, x19, x25, x13, a1, a2, p1, p2, g1, g2, t1, t2, rfl, f1, f2, f3, f4, e1, f5, f6, f7, f8, e2, m5, m6, m7, m8⟩)⟩
end Go.Proofs.YtnfhpdbbfejioaaGreatDoor
