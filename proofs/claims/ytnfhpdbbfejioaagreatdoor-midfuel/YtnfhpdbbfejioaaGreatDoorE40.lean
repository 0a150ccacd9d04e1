/- PG NL PH PO -/
import Derived.Test.YtnfhpdbbfejioaaGreatDoorE38
import Derived.Test.YtnfhpdbbfejioaaGreatDoorE39
namespace Go.Proofs.YtnfhpdbbfejioaaGreatDoor.Mid
set_option linter.unusedVariables false
set_option linter.unusedSimpArgs false
set_option maxRecDepth 100000
set_option maxHeartbeats 16000000
open Go Go.RowKit
theorem fnC : FnC := fun w nm at' vp vb nb ps body bcs h1 h2 h3 u s' h => function_any' w nm at' vp vb nb ps body bcs h1 h2 h3 h
theorem m_nm : mL.all (fun F => decide (F.nm.length ≤ 1000000)) = true := by kernel_rfl
theorem low_got (w : World) (v : Value) (hg : Got w v mL) : Calls Tryz.prog 20 #[v] w fun e w' => ∃ cb q c, e = .returned (.tuple #[ptr cb, .nilIface]) ∧ CodeAt w' cb q c mMs ∧ Below w.heap.size w w' := by
  have h12 : mL.length ≤ 12 := by rw [m_len]; omega
  refine lower_any fnC w v mL (li_of2 hg) (fun W hW => ?_) mMs (by unfold mMs; simp) (fun i F m hF hm => ?_) h12 (fun m hm => ?_) (fun F hF => ?_)
  · have := check_got2 (s := mT) (by decide) m_parse W v (hg.below hW)
    rw [m_chk] at this
    exact this
  · have hs := List.all_eq_true.1 m_low F (List.mem_of_getElem? hF)
    obtain ⟨⟨u, s'⟩, hk⟩ := Option.isSome_iff_exists.1 hs
    have hmm : m = mfK F := by
      unfold mMs at hm
      rw [List.getElem?_map, hF] at hm
      exact (Option.some.inj hm).symm
    refine ⟨u, s', hk, ?_⟩
    rw [hmm]
    unfold mfK
    rw [hk]
  · have := List.all_eq_true.1 m_ok m hm
    simp only [Bool.and_eq_true, decide_eq_true_eq] at this
    exact ⟨⟨this.1, this.2.1⟩, this.2.2⟩
  · have := List.all_eq_true.1 m_nm F hF
    simpa using this
theorem InW.own {w : World} {B : Nat} {v : Value} {l : List Int} (h : w.ownsRow B 2 1 v l.length (q_ l)) : InW w v l := by
  rcases id h.2 with ⟨e, hn⟩ | ⟨g, cap, cur, e, hb, hg, hle, hmx, hsz, htk⟩
  · exact ⟨none, 0, by rw [e, hn], .inl (List.length_eq_zero_iff.1 hn)⟩
  · refine ⟨some ⟨g, 0, none⟩, cap, e, .inr ⟨g, 0, rfl, (Array.getElem?_eq_some_iff.1 hg).1, hle, fun j x hx => ?_⟩⟩
    have := h.cells (g := g) (by rw [e]; rfl) j (.int .i64 x) (by simp [q_, hx])
    rw [add_at0] at this
    rw [Nat.zero_add]
    exact this
theorem inw_mk (w : World) (l : List Int) : InW (w.alloc (.cells (q_ l).toArray 2)) (.slice (some ⟨w.heap.size, 0, none⟩) l.length l.length) l := by
  refine ⟨_, _, rfl, .inr ⟨w.heap.size, 0, rfl, by simp, Nat.le_refl _, fun j x hx => ?_⟩⟩
  refine z_ (heap_alloc_last w _) ?_
  rw [Nat.zero_add]
  simp [hx]
theorem lowered_ok (w : World) (he : EnvW 14 w) (hfm : FmE w) (hmk : MkE w) : Calls Tryz.prog 19 #[] w fun e w' => e = .returned (.bool true) ∧ Below w.heap.size w w' := by
  have e1 : (⟨mT.toArray⟩ : ByteArray).data.toList = mT := rfl
  have HP : Hid (Calls Tryz.prog 14 #[.string ⟨#[102, 110, 32, 109, 97, 105, 110, 40, 41, 32, 123, 32, 118, 97, 114, 32, 97, 32, 61, 32, 110, 101, 119, 40, 50, 41, 59, 32, 97, 91, 49, 93, 32, 61, 32, 54, 59, 32, 105, 102, 32, 40, 97, 91, 49, 93, 32, 62, 32, 53, 32, 38, 38, 32, 108, 101, 110, 40, 97, 41, 32, 61, 61, 32, 50, 41, 32, 123, 32, 112, 114, 105, 110, 116, 32, 97, 91, 49, 93, 59, 32, 125, 32, 114, 101, 116, 117, 114, 110, 32, 102, 40, 97, 44, 32, 50, 41, 59, 32, 125, 32, 102, 110, 32, 102, 40, 120, 58, 32, 97, 114, 114, 44, 32, 110, 58, 32, 105, 110, 116, 41, 32, 123, 32, 114, 101, 116, 117, 114, 110, 32, 120, 91, 110, 93, 59, 32, 125]⟩] w fun e w' => ∃ q c, e = .returned (.tuple #[.slice q 2 c, .nilIface]) ∧ Got w' (.slice q 2 c) mL ∧ Below w.heap.size w w') := by
    have := parse_got (s := ⟨mT.toArray⟩) (L := mL) he.env (by decide) (by rw [e1]; exact m_parse)
    rw [m_len] at this
    exact this
  have HEn : Hid (∀ W, Below w.heap.size w W → FmE W ∧ MkE W) := fun W hW => ⟨hfm.below hW, hmk.below hW⟩
  have HRi : Hid (∀ W cb q c, Below w.heap.size w W → CodeAt W cb q c mMs → Calls Tryz.prog 22 #[ptr cb] W (LkP true W)) := fun W cb q c hW hc => by
    have := Right_any W cb q c mMs hc (hfm.below hW) (hmk.below hW)
    rw [m_right] at this
    exact this
  have HRu : Hid (∀ W cb q c, Below w.heap.size w W → CodeAt W cb q c mMs → Calls Tryz.prog 24 #[ptr cb, .slice none 0 0, .int .i64 1000] W fun e w' => ∃ p c, e = .returned (.agg #[.int .i64 3, .int .i64 0, .slice p 1 c]) ∧ InW w' (.slice p 1 c) [6] ∧ Below W.heap.size W w') := fun W cb q c hW hc => by
    have := Run_any W cb q c mMs (.slice none 0 0) [] 1000 1001 hc (hfm.below hW) (hmk.below hW) ⟨none, 0, rfl, .inl rfl⟩ (by omega) (by decide)
    rw [m_run] at this
    refine this.mono ?_
    rintro e w' ⟨p, c, h1, h2, h3⟩
    exact ⟨p, c, h1, InW.own h2, h3⟩
  have HEq : Hid (∀ W v1 v2, InW W v1 [6] → InW W v2 [6] → Calls Tryz.prog 13 #[v1, v2] W fun e w' => e = .returned (.bool true) ∧ Below W.heap.size W w') := fun W v1 v2 h1 h2 => equal_sm W v1 v2 [6] h1 h2 (by decide)
  have hne : ∀ w : World, (binOp .neq 34 .nilIface .nilIface).run Tryz.prog w = .ok (.bool false) w := fun w => by kernel_rfl
  clear he e1 hfm hmk
  go_enter Tryz.func19, Tryz.ntmps19
  go_wp2_with (go_at_call 14; fail)
  refine HP.out.mono ?_
  rintro e w1 ⟨q, c, rfl, hg, hb⟩
  have HB : Hid (Below w.heap.size w w1) := hb
  have HL : Hid (Calls Tryz.prog 20 #[.slice q 2 c] w1 fun e w' => ∃ cb q c, e = .returned (.tuple #[ptr cb, .nilIface]) ∧ CodeAt w' cb q c mMs ∧ Below w1.heap.size w1 w') := low_got w1 _ hg
  clear hb hg
  go_wp2_with (go_at_call 20; fail)
  refine HL.out.mono ?_
  rintro e w2 ⟨cb, q2, c2, rfl, hc2, hb2⟩
  have HB2 : Hid (Below w.heap.size w w2) := HB.out.trans (hb2.mono HB.out.size)
  have HC2 : Hid (CodeAt w2 cb q2 c2 mMs) := hc2
  clear hc2 hb2
  have HC22 : Hid (Calls Tryz.prog 22 #[ptr cb] w2 (LkP true w2)) := HRi.out w2 cb q2 c2 HB2.out HC2.out
  go_wp2_with (go_at_call 22; fail)
  refine HC22.out.mono ?_
  rintro e w3 ⟨rfl, hb3⟩
  have HB3 : Hid (Below w.heap.size w w3) := HB2.out.trans (hb3.mono HB2.out.size)
  have HC24 : Hid (Calls Tryz.prog 24 #[ptr cb, .slice none 0 0, .int .i64 1000] w3 fun e w' => ∃ p c, e = .returned (.agg #[.int .i64 3, .int .i64 0, .slice p 1 c]) ∧ InW w' (.slice p 1 c) [6] ∧ Below w3.heap.size w3 w') := HRu.out w3 cb q2 c2 HB3.out (HC2.out.below hb3)
  clear hb3
  go_wp2_with (go_at_call 24; fail)
  refine HC24.out.mono ?_
  rintro e w4 ⟨p, c4, rfl, hO, hb4⟩
  have HO : Hid (InW w4 (.slice p 1 c4) [6]) := hO
  have HB4 : Hid (Below w.heap.size w w4) := HB3.out.trans (hb4.mono HB3.out.size)
  clear hO hb4
  go_wp2_with (go_at_call 13; fail)
  have hin := inw_mk (w4.alloc (.cells #[.int .i64 3, .int .i64 0, .slice p 1 c4] 29)) [6]
  refine (HEq.out _ _ _ (HO.out.below ((zt _ _).trans ((zt _ _).mono (by simp)))) (by simpa using hin)).mono ?_
  rintro e w5 ⟨rfl, hb5⟩
  have HB5 : Hid (Below w.heap.size w w5) := (HB4.out.trans ((((zt w4 _).trans ((zt _ _).mono (by simp))) : Below w4.heap.size w4 _).mono HB4.out.size)).trans (hb5.mono (by have := HB4.out.size; simp; omega))
  clear hb5 hin
  go_wp2
  go_ret
  exact ⟨rfl, HB5.out⟩
def Sg.plus (s : Sg) (b : Nat) : Sg := { s with fuel := s.fuel + b }
def outOf {α : Type} : Except (Int × List Int) (α × Sg) → List Int
  | .ok (_, s) => s.out
  | .error (_, out) => out
structure Mo {α : Type} (x : Go1 α) : Prop where
  grows : ∀ s, s.out <+: outOf (x s)
  ok : ∀ s b a s1, x s = .ok (a, s1) → x (s.plus b) = .ok (a, s1.plus b)
  er : ∀ s b k out, x s = .error (k, out) → (k ≠ 6 ∧ x (s.plus b) = .error (k, out)) ∨ (k = 6 ∧ out <+: outOf (x (s.plus b)))
theorem mo_gp {α : Type} (a : α) : Mo (gp a) := ⟨fun s => List.prefix_rfl, fun s b a' s1 h => by injection h with h; injection h with h1 h2; subst h1 h2; rfl, fun s b k out h => by cases h⟩
theorem mo_gt {α : Type} {k : Int} (hk : k ≠ 6) : Mo (gt k : Go1 α) := ⟨fun s => List.prefix_rfl, fun s b a' s1 h => (by cases h), fun s b k' out h => by injection h with h; injection h with h1 h2; subst h1 h2; exact .inl ⟨hk, rfl⟩⟩
theorem mo_gb {α β : Type} {x : Go1 α} {f : α → Go1 β} (hx : Mo x) (hf : ∀ a, Mo (f a)) : Mo (gb x f) := by
  refine ⟨fun s => ?_, fun s b a' s1 h => ?_, fun s b k out h => ?_⟩
  · have h1 := hx.grows s
    unfold gb
    cases e : x s with
    | error p => rw [e] at h1; exact h1
    | ok p =>
      obtain ⟨a, s2⟩ := p
      rw [e] at h1
      exact h1.trans ((hf a).grows s2)
  · cases e : x s with
    | error p => rw [gb_e e] at h; cases h
    | ok p =>
      obtain ⟨a, s2⟩ := p
      rw [gb_o e] at h
      rw [gb_o (hx.ok s b a s2 e)]
      exact (hf a).ok s2 b a' s1 h
  · cases e : x s with
    | error p =>
      obtain ⟨k2, out2⟩ := p
      rw [gb_e e] at h
      injection h with h
      injection h with h1 h2
      subst h1 h2
      rcases hx.er s b _ _ e with ⟨h1, h2⟩ | ⟨h1, h2⟩
      · exact .inl ⟨h1, gb_e h2⟩
      · refine .inr ⟨h1, h2.trans ?_⟩
        unfold gb
        cases e2 : x (s.plus b) with
        | error p => exact List.prefix_rfl
        | ok p =>
          obtain ⟨a, s2⟩ := p
          exact (hf a).grows s2
    | ok p =>
      obtain ⟨a, s2⟩ := p
      rw [gb_o e] at h
      rw [gb_o (hx.ok s b a s2 e)]
      exact (hf a).er s2 b k out h
theorem mo_pay : Mo pay := by
  refine ⟨fun s => ?_, fun s b a' s1 h => ?_, fun s b k out h => ?_⟩
  · unfold pay; split <;> exact List.prefix_rfl
  · by_cases h0 : s.fuel ≤ 0
    · rw [pay_no h0] at h; cases h
    · rw [pay_yes h0] at h
      injection h with h; injection h with _ h2; subst h2
      rw [pay_yes (by show ¬ s.fuel + b ≤ 0; omega)]
      show Except.ok ((), ({ s with fuel := s.fuel + b - 1 } : Sg)) = Except.ok ((), { s with fuel := s.fuel - 1 + b })
      rw [show s.fuel + (b : Int) - 1 = s.fuel - 1 + b by omega]
  · by_cases h0 : s.fuel ≤ 0
    · rw [pay_no h0] at h
      injection h with h; injection h with h1 h2; subst h1 h2
      refine .inr ⟨rfl, ?_⟩
      unfold pay; split <;> exact List.prefix_rfl
    · rw [pay_yes h0] at h; cases h
theorem mo_tell (n : Int) : Mo (tellG n) := by
  refine ⟨fun s => ?_, fun s b a' s1 h => ?_, fun s b k out h => ?_⟩
  · unfold tellG; split
    · exact List.prefix_rfl
    · exact ⟨[n], rfl⟩
  · by_cases h0 : 200 ≤ s.out.length
    · rw [tell_er h0] at h; cases h
    · rw [tell_ok (by omega)] at h
      injection h with h; injection h with _ h2; subst h2
      rw [tell_ok (by show s.out.length < 200; omega)]
      rfl
  · by_cases h0 : 200 ≤ s.out.length
    · rw [tell_er h0] at h
      injection h with h; injection h with h1 h2; subst h1 h2
      exact .inl ⟨by decide, tell_er (s := s.plus b) h0⟩
    · rw [tell_ok (by omega)] at h; cases h
theorem mo_take : Mo takeG := ⟨fun s => List.prefix_rfl, fun s b a' s1 h => by injection h with h; injection h with h1 h2; subst h1 h2; rfl, fun s b k out h => by cases h⟩
theorem mo_len (q : Option Nat) : Mo (lenG q) := ⟨fun s => List.prefix_rfl, fun s b a' s1 h => by injection h with h; injection h with h1 h2; subst h1 h2; cases q <;> rfl, fun s b k out h => by cases h⟩
theorem mo_new (n : Int) : Mo (newG n) := by
  by_cases h0 : n < 0 ∨ 40 < n
  · refine ⟨fun s => ?_, fun s b a' s1 h => ?_, fun s b k out h => ?_⟩
    · rw [new_er h0]; exact List.prefix_rfl
    · rw [new_er h0] at h; cases h
    · rw [new_er h0] at h
      injection h with h; injection h with h1 h2; subst h1 h2
      exact .inl ⟨by decide, new_er (s := s.plus b) h0⟩
  · refine ⟨fun s => ?_, fun s b a' s1 h => ?_, fun s b k out h => ?_⟩
    · rw [new_ok (by omega)]; exact List.prefix_rfl
    · rw [new_ok (by omega)] at h
      injection h with h; injection h with h1 h2; subst h1 h2
      rw [new_ok (by omega)]; rfl
    · rw [new_ok (by omega)] at h; cases h
theorem arr_plus (s : Sg) (b : Nat) (q : Option Nat) : zS (s.plus b) q = zS s q := by cases q <;> rfl
theorem mo_item (q : Option Nat) (i : Int) : Mo (itemG q i) := by
  refine ⟨fun s => ?_, fun s b a' s1 h => ?_, fun s b k out h => ?_⟩
  · unfold itemG; split <;> exact List.prefix_rfl
  · by_cases h0 : i < 0 ∨ ((zS s q).length : Int) ≤ i
    · rw [it_er h0] at h; cases h
    · rw [it_ok h0] at h
      injection h with h; injection h with h1 h2; subst h1 h2
      rw [it_ok (by rw [arr_plus]; exact h0), arr_plus]
  · by_cases h0 : i < 0 ∨ ((zS s q).length : Int) ≤ i
    · rw [it_er h0] at h
      injection h with h; injection h with h1 h2; subst h1 h2
      exact .inl ⟨by decide, it_er (s := s.plus b) (by rw [arr_plus]; exact h0)⟩
    · rw [it_ok h0] at h; cases h
theorem mo_put (q : Option Nat) (i n : Int) : Mo (putG q i n) := by
  refine ⟨fun s => ?_, fun s b a' s1 h => ?_, fun s b k out h => ?_⟩
  · unfold putG; split <;> exact List.prefix_rfl
  · by_cases h0 : i < 0 ∨ ((zS s q).length : Int) ≤ i
    · rw [put_er h0] at h; cases h
    · rw [put_ok h0] at h
      injection h with h; injection h with h1 h2; subst h1 h2
      rw [put_ok (by rw [arr_plus]; exact h0)]
      rfl
  · by_cases h0 : i < 0 ∨ ((zS s q).length : Int) ≤ i
    · rw [put_er h0] at h
      injection h with h; injection h with h1 h2; subst h1 h2
      exact .inl ⟨by decide, put_er (s := s.plus b) (by rw [arr_plus]; exact h0)⟩
    · rw [put_ok h0] at h; cases h
theorem both_way (op : By) (a b : Int) : (bothV op a b).2 = 0 ∨ (bothV op a b).2 = 2 := by
  unfold bothV
  repeat' split
  all_goals simp
theorem mo_both (op : By) (a b : Int) : Mo (bothG op a b) := by
  unfold bothG
  rcases both_way op a b with h | h
  · rw [h]; exact mo_gp _
  · rw [h]; exact mo_gt (by decide)
theorem mo_reck {fs : By → Option Mf} {g : Nat} (ih : ∀ d F k o, Mo (goN fs g d F k o)) (d : Nat) (s : Ms) (o : List Vl) : Mo (zp fs g d s o) := by
  unfold zp
  split
  · exact mo_gp _
  split
  · exact mo_gb (mo_both _ _ _) (fun _ => mo_gp _)
  split
  · split
    · exact mo_gt (by decide)
    · split
      · exact mo_gt (by decide)
      · exact mo_gb (ih _ _ _ _) (fun _ => mo_gp _)
  split
  · exact mo_new _
  split
  · exact mo_gb (mo_len _) (fun _ => mo_gp _)
  split
  · exact mo_gb (mo_item _ _) (fun _ => mo_gp _)
  split
  · exact mo_gb mo_take (fun _ => mo_gp _)
  · exact mo_gp _
theorem mo_go (fs : By → Option Mf) : ∀ g d F k o, Mo (goN fs g d F k o)
  | 0 => fun d F k o => mo_gt (by decide)
  | g + 1 => fun d F k o => by
    have ih := mo_go fs g
    rw [goN_1]
    refine mo_gb mo_pay (fun _ => ?_)
    split
    · exact mo_gt (by decide)
    · split
      · exact mo_gp _
      split
      · exact ih _ _ _ _
      split
      · split <;> exact ih _ _ _ _
      split
      · exact mo_gb (mo_tell _) (fun _ => ih _ _ _ _)
      split
      · exact mo_gb (mo_put _ _ _) (fun _ => ih _ _ _ _)
      split
      · exact ih _ _ _ _
      · exact mo_gb (mo_reck ih _ _ _) (fun _ => ih _ _ _ _)
theorem wrap_u64_nat (n : Nat) (h : n ≤ 1000000) : IntKind.u64.wrap (n : Int) = (n : Int) := by
  have h2 : IntKind.u64.wrap (n : Int) = (n : Int) % 18446744073709551616 := rfl
  rw [h2]
  omega
def pickN (a : Int) (n : Nat) : Nat := (IntKind.u64.wrap a).toNat % n
theorem pickN_lt (a : Int) {n : Nat} (h : 0 < n) : pickN a n < n := Nat.mod_lt _ h
theorem pick_11 (w : World) (a : Int) (n : Nat) (h0 : 0 < n) (hn : n ≤ 1000000) : Calls Tryz.prog 11 #[.int .i64 a, .int .i64 (n : Int)] w (fun e w' => e = .returned (.int .i64 (pickN a n : Int)) ∧ w' = w) := by
  obtain ⟨u, hu⟩ : ∃ u, IntKind.u64.wrap a = u := ⟨_, rfl⟩
  have hu0 : 0 ≤ u := by
    have h2 : IntKind.u64.wrap a = a % 18446744073709551616 := rfl
    rw [← hu, h2]
    exact Int.emod_nonneg _ (by omega)
  have hw := wrap_u64_nat n hn
  have hk : (u.tmod (n : Int)) = ((u.toNat % n : Nat) : Int) := by
    obtain ⟨un, rfl⟩ : ∃ un : Nat, u = (un : Int) := ⟨u.toNat, by omega⟩
    rw [← Int.ofNat_tmod, Int.toNat_natCast]
  have hlt : u.toNat % n < n := Nat.mod_lt _ h0
  obtain ⟨k, hkk⟩ : ∃ k, u.toNat % n = k := ⟨_, rfl⟩
  rw [hkk] at hk hlt
  have hnz : ((n : Int) == 0) = false := by simp; omega
  have hnz2 : ¬ (n : Int) = 0 := by omega
  have hkw : IntKind.i64.wrap (k : Int) = (k : Int) := by rw [IntKind.wrap_i64]; omega
  have HX : Hid ((fun e w' => e = Ending.returned (.int .i64 (pickN a n : Int)) ∧ w' = w) (.returned (.int .i64 (k : Int))) w) := ⟨by unfold pickN; rw [hu, hkk], rfl⟩
  generalize (fun e w' => e = Ending.returned (.int .i64 (pickN a n : Int)) ∧ w' = w) = G at HX ⊢
  clear hkk hlt
  go_enter Tryz.func11, Tryz.ntmps11
  go_wp2
  exact HX.out
theorem sameEnd_17 (w : World) (wy cy : Int) (p q : Option Addr) (n c d : Nat) (l : List Int) (h1 : InW w (.slice p n c) l) (h2 : InW w (.slice q n d) l) (hl : l.length ≤ 100000) :
    Calls Tryz.prog 17 #[.agg #[.int .i64 wy, .int .i64 cy, .slice p n c], .agg #[.int .i64 wy, .int .i64 cy, .slice q n d]] w fun e w' => e = .returned (.bool true) ∧ Below w.heap.size w w' := by
  have HEq : Hid (∀ W v1 v2, InW W v1 l → InW W v2 l → Calls Tryz.prog 13 #[v1, v2] W fun e w' => e = .returned (.bool true) ∧ Below W.heap.size W w') := fun W v1 v2 h1 h2 => equal_sm W v1 v2 l h1 h2 hl
  have HI : Hid (∀ W, Below w.heap.size w W → InW W (.slice p n c) l ∧ InW W (.slice q n d) l) := fun W hb => ⟨h1.below hb, h2.below hb⟩
  clear h1 h2 hl
  go_enter Tryz.func17, Tryz.ntmps17
  go_wp2_with (go_at_call 13; fail)
  have hb : Below w.heap.size w ((w.alloc (.cells #[.int .i64 wy, .int .i64 cy, .slice p n c] 29)).alloc (.cells #[.int .i64 wy, .int .i64 cy, .slice q n d] 29)) := (zt _ _).trans ((zt (w.alloc _) _).mono (by simp))
  refine (HEq.out _ _ _ (HI.out _ hb).1 (HI.out _ hb).2).mono ?_
  rintro e wb ⟨rfl, hb2⟩
  have HB : Hid (Below w.heap.size w wb) := hb.trans (hb2.mono hb.size)
  clear hb hb2
  go_wp2
  go_ret
  exact ⟨rfl, HB.out⟩
theorem run_more (g : Nat) (L : List Mf) (inp : List Int) (a : Int) (b : Nat) : (zL g L inp a).2.2 <+: (zL g L inp (a + b)).2.2 ∧ ((zL g L inp a).1 = 6 ∨ zL g L inp a = zL g L inp (a + b)) := by
  unfold zL
  split
  · split
    · exact ⟨List.prefix_rfl, .inr rfl⟩
    · rename_i F hF
      have hm : Mo (qx (fsL L) g 0 F (List.replicate F.types.length (0, none))) := by
        unfold qx
        rw [if_neg (by omega)]
        exact mo_go (fsL L) g 1 F 0 _
      have hpl : (⟨a + b, inp, [], []⟩ : Sg) = Sg.plus ⟨a, inp, [], []⟩ b := rfl
      rw [hpl]
      cases hx : qx (fsL L) g 0 F (List.replicate F.types.length (0, none)) ⟨a, inp, [], []⟩ with
      | ok r =>
        obtain ⟨z, s1⟩ := r
        rw [hm.ok _ b z s1 hx]
        exact ⟨List.prefix_rfl, .inr rfl⟩
      | error r =>
        obtain ⟨k, out⟩ := r
        rcases hm.er _ b k out hx with ⟨hk, e⟩ | ⟨hk, e⟩
        · rw [e]
          exact ⟨List.prefix_rfl, .inr rfl⟩
        · refine ⟨?_, .inl hk⟩
          cases hy : qx (fsL L) g 0 F (List.replicate F.types.length (0, none)) (Sg.plus ⟨a, inp, [], []⟩ b) with
          | ok r =>
            rw [hy] at e
            exact e
          | error r =>
            rw [hy] at e
            exact e
  · exact ⟨List.prefix_rfl, .inr rfl⟩
theorem run_wrong {g : Nat} {L : List Mf} (h : zK L = false) (inp : List Int) (a : Int) : (zL g L inp a).1 = 9 := by
  unfold zL
  rw [if_neg (by rw [h]; decide)]
def Ou {α : Type} (x : Go1 α) : Prop := ∀ s, s.out.length ≤ 200 → (outOf (x s)).length ≤ 200
theorem ou_gp {α : Type} (a : α) : Ou (gp a) := fun s h => h
theorem ou_gt {α : Type} (k : Int) : Ou (gt k : Go1 α) := fun s h => h
theorem ou_gb {α β : Type} {x : Go1 α} {f : α → Go1 β} (hx : Ou x) (hf : ∀ a, Ou (f a)) : Ou (gb x f) := fun s h => by
  have h1 := hx s h
  unfold gb
  cases e : x s with
  | error k =>
    obtain ⟨k, o⟩ := k
    rw [e] at h1
    exact h1
  | ok p =>
    obtain ⟨a, s2⟩ := p
    rw [e] at h1
    exact hf a s2 h1
theorem ou_pay : Ou pay := fun s h => by
  unfold pay
  split <;> exact h
theorem ou_tell (n : Int) : Ou (tellG n) := fun s h => by
  unfold tellG
  split
  · exact h
  · show (s.out ++ [n]).length ≤ 200
    simp only [List.length_append, List.length_cons, List.length_nil]
    omega
theorem ou_take : Ou takeG := fun s h => h
theorem ou_new (n : Int) : Ou (newG n) := fun s h => by
  unfold newG
  split <;> exact h
theorem ou_len (q : Option Nat) : Ou (lenG q) := fun s h => h
theorem ou_item (q : Option Nat) (i : Int) : Ou (itemG q i) := fun s h => by
  unfold itemG
  split <;> exact h
theorem ou_put (q : Option Nat) (i n : Int) : Ou (putG q i n) := fun s h => by
  unfold putG
  split <;> exact h
theorem ou_both (op : By) (a b : Int) : Ou (bothG op a b) := by
  unfold bothG
  split
  · exact ou_gt _
  · exact ou_gp _
theorem ou_reck {fs : By → Option Mf} {g : Nat} (ih : ∀ d F k o, Ou (goN fs g d F k o)) (d : Nat) (s : Ms) (o : List Vl) : Ou (zp fs g d s o) := by
  unfold zp
  split
  · exact ou_gp _
  split
  · exact ou_gb (ou_both _ _ _) (fun _ => ou_gp _)
  split
  · split
    · exact ou_gt _
    · split
      · exact ou_gt _
      · exact ou_gb (ih _ _ _ _) (fun _ => ou_gp _)
  split
  · exact ou_new _
  split
  · exact ou_gb (ou_len _) (fun _ => ou_gp _)
  split
  · exact ou_gb (ou_item _ _) (fun _ => ou_gp _)
  split
  · exact ou_gb ou_take (fun _ => ou_gp _)
  · exact ou_gp _
theorem ou_go (fs : By → Option Mf) : ∀ g d F k o, Ou (goN fs g d F k o)
  | 0 => fun d F k o => ou_gt _
  | g + 1 => fun d F k o => by
    have ih := ou_go fs g
    rw [goN_1]
    refine ou_gb ou_pay (fun _ => ?_)
    split
    · exact ou_gt _
    · split
      · exact ou_gp _
      split
      · exact ih _ _ _ _
      split
      · split <;> exact ih _ _ _ _
      split
      · exact ou_gb (ou_tell _) (fun _ => ih _ _ _ _)
      split
      · exact ou_gb (ou_put _ _ _) (fun _ => ih _ _ _ _)
      split
      · exact ih _ _ _ _
      · exact ou_gb (ou_reck ih _ _ _) (fun _ => ih _ _ _ _)
theorem run_out (g : Nat) (L : List Mf) (inp : List Int) (a : Int) : (zL g L inp a).2.2.length ≤ 200 := by
  unfold zL
  split
  · split
    · simp
    · rename_i F hF
      have h := (show Ou (qx (fsL L) g 0 F (List.replicate F.types.length (0, none))) by
        unfold qx
        rw [if_neg (by omega)]
        exact ou_go (fsL L) g 1 F 0 _) ⟨a, inp, [], []⟩ (by simp)
      cases hx : qx (fsL L) g 0 F (List.replicate F.types.length (0, none)) ⟨a, inp, [], []⟩ with
      | ok r =>
        obtain ⟨z, s1⟩ := r
        rw [hx] at h
        exact h
      | error r =>
        obtain ⟨k, out⟩ := r
        rw [hx] at h
        exact h
  · simp
end Go.Proofs.YtnfhpdbbfejioaaGreatDoor.Mid
