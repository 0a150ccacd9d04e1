/- The document's PrintInst: what it says of any instruction. The document's ReadInst, walked. -/
import Derived.Test.YtjjjdplgdlaihaaGreatDoorD3
import Derived.Test.YtjjjdplgdlaihaaGreatDoorD4
import Derived.Test.YtjjjdplgdlaihaaGreatDoorMP
import Derived.Test.YtjjjdplgdlaihaaGreatDoorMH
import Derived.Test.YtjjjdplgdlaihaaGreatDoorMN
namespace Go.Proofs.YtjjjdplgdlaihaaGreatDoor
set_option linter.unusedVariables false
open Go Go.RowKit

theorem formNm_in (o : Nat) (h1 : 1 ≤ o) (h2 : o ≤ 31) : FormNm (o : Int) ⟨(opN o).toArray⟩ := by
  rcases lt32 h1 h2 with rfl | rfl | rfl | rfl | rfl | rfl | rfl | rfl | rfl | rfl | rfl | rfl | rfl | rfl | rfl | rfl | rfl | rfl | rfl | rfl | rfl | rfl | rfl | rfl | rfl | rfl | rfl | rfl | rfl | rfl | rfl
  · exact fun w => (formN_1 w).mono fun _ _ h => ⟨⟨_, _, _, _, h.1⟩, h.2⟩
  · exact fun w => (formN_2 w).mono fun _ _ h => ⟨⟨_, _, _, _, h.1⟩, h.2⟩
  · exact fun w => (formN_3 w).mono fun _ _ h => ⟨⟨_, _, _, _, h.1⟩, h.2⟩
  · exact fun w => (formN_4 w).mono fun _ _ h => ⟨⟨_, _, _, _, h.1⟩, h.2⟩
  · exact fun w => (formN_5 w).mono fun _ _ h => ⟨⟨_, _, _, _, h.1⟩, h.2⟩
  · exact fun w => (formN_6 w).mono fun _ _ h => ⟨⟨_, _, _, _, h.1⟩, h.2⟩
  · exact fun w => (formN_7 w).mono fun _ _ h => ⟨⟨_, _, _, _, h.1⟩, h.2⟩
  · exact fun w => (formN_8 w).mono fun _ _ h => ⟨⟨_, _, _, _, h.1⟩, h.2⟩
  · exact fun w => (formN_9 w).mono fun _ _ h => ⟨⟨_, _, _, _, h.1⟩, h.2⟩
  · exact fun w => (formN_10 w).mono fun _ _ h => ⟨⟨_, _, _, _, h.1⟩, h.2⟩
  · exact fun w => (formN_11 w).mono fun _ _ h => ⟨⟨_, _, _, _, h.1⟩, h.2⟩
  · exact fun w => (formN_12 w).mono fun _ _ h => ⟨⟨_, _, _, _, h.1⟩, h.2⟩
  · exact fun w => (formN_13 w).mono fun _ _ h => ⟨⟨_, _, _, _, h.1⟩, h.2⟩
  · exact fun w => (formN_14 w).mono fun _ _ h => ⟨⟨_, _, _, _, h.1⟩, h.2⟩
  · exact fun w => (formN_15 w).mono fun _ _ h => ⟨⟨_, _, _, _, h.1⟩, h.2⟩
  · exact fun w => (formN_16 w).mono fun _ _ h => ⟨⟨_, _, _, _, h.1⟩, h.2⟩
  · exact fun w => (formN_17 w).mono fun _ _ h => ⟨⟨_, _, _, _, h.1⟩, h.2⟩
  · exact fun w => (formN_18 w).mono fun _ _ h => ⟨⟨_, _, _, _, h.1⟩, h.2⟩
  · exact fun w => (formN_19 w).mono fun _ _ h => ⟨⟨_, _, _, _, h.1⟩, h.2⟩
  · exact fun w => (formN_20 w).mono fun _ _ h => ⟨⟨_, _, _, _, h.1⟩, h.2⟩
  · exact fun w => (formN_21 w).mono fun _ _ h => ⟨⟨_, _, _, _, h.1⟩, h.2⟩
  · exact fun w => (formN_22 w).mono fun _ _ h => ⟨⟨_, _, _, _, h.1⟩, h.2⟩
  · exact fun w => (formN_23 w).mono fun _ _ h => ⟨⟨_, _, _, _, h.1⟩, h.2⟩
  · exact fun w => (formN_24 w).mono fun _ _ h => ⟨⟨_, _, _, _, h.1⟩, h.2⟩
  · exact fun w => (formN_25 w).mono fun _ _ h => ⟨⟨_, _, _, _, h.1⟩, h.2⟩
  · exact fun w => (formN_26 w).mono fun _ _ h => ⟨⟨_, _, _, _, h.1⟩, h.2⟩
  · exact fun w => (formN_27 w).mono fun _ _ h => ⟨⟨_, _, _, _, h.1⟩, h.2⟩
  · exact fun w => (formN_28 w).mono fun _ _ h => ⟨⟨_, _, _, _, h.1⟩, h.2⟩
  · exact fun w => (formN_29 w).mono fun _ _ h => ⟨⟨_, _, _, _, h.1⟩, h.2⟩
  · exact fun w => (formN_30 w).mono fun _ _ h => ⟨⟨_, _, _, _, h.1⟩, h.2⟩
  · exact fun w => (formN_31 w).mono fun _ _ h => ⟨⟨_, _, _, _, h.1⟩, h.2⟩
theorem parts_ok : ∀ o, o < 32 → ((opsL.getD o ([], [])).2.all kindOk = true ∧ (opsL.getD o ([], [])).2.length ≤ 3) := by decide
theorem printdoc_yes (o d a b n : Int) (w : World) (he : Env w) (hr : Rt o d a b n = true) (hn0 : -9223372036854775808 ≤ n) (hn1 : n ≤ 9223372036854775807) :
    Calls Tryz.prog 11 #[instV o d a b n] w fun e w' => e = .returned (.tuple #[str (prV ⟨o, d, a, b, n, []⟩), .int .i64 0]) ∧ Below w.heap.size w w' := by
  obtain ⟨h1, h2, h3⟩ := Rt_split hr
  obtain ⟨hd, ha, hb⟩ := regs_in h3
  have hR := right_doc o d a b n
  rw [hr] at hR
  obtain ⟨k, rfl⟩ := Int.eq_ofNat_of_zero_le (show 0 ≤ o by omega)
  obtain ⟨p1, p2⟩ := parts_ok k (by omega)
  have hl : (opN k).length ≤ 10 := names_len k (by omega)
  exact printdoc_core k d a b n ⟨(opN k).toArray⟩ ⟨(shpV k).toArray⟩ w he hn0 hn1 hd ha hb hR (formNm_in k (by omega) (by omega)) (fun w => shape_in k (by omega) (by omega) w)
    ⟨hd, ha, hb, ⟨hn0, hn1⟩⟩ (by simpa [ByteArray.size] using hl) (by simpa [ByteArray.size, shpV] using p2) (opsL.getD k ([], [])).2 rfl (fun x hx => List.all_eq_true.1 p1 x hx)

set_option maxHeartbeats 2000000 in
theorem printdoc_no (o d a b n : Int) (w : World) (hr : Rt o d a b n = false) :
    Calls Tryz.prog 11 #[instV o d a b n] w fun e w' => e = .returned (.tuple #[.string ⟨#[]⟩, .int .i64 1]) ∧ Below w.heap.size w w' := by
  have hR := right_doc o d a b n
  rw [hr] at hR
  go_enter Tryz.func11, Tryz.ntmps11
  go_wp2_with (go_at_call 23; fail)
  refine (hR _).mono ?_
  rintro e w0 ⟨rfl, hb0⟩
  have HB : Hid (Below w.heap.size w w0) := ((Below.refl _ _).alloc (Nat.le_refl _) _).trans (hb0.mono (by simp))
  clear hb0
  go_wp2
  go_ret2
  exact ⟨rfl, HB.out⟩
end Go.Proofs.YtjjjdplgdlaihaaGreatDoor

namespace Go.Proofs.YtjjjdplgdlaihaaGreatDoor
set_option linter.unusedVariables false
set_option linter.unusedSimpArgs false
open Go Go.RowKit

/-- What it hands back. -/
def RdOut : Option Dr → Ending → Prop
  | some d, e => ∃ n : Int, e = .returned (.tuple #[instV d.o d.d d.a d.b n, str d.pl, .bool true]) ∧ (d.pl = [] → n = d.n)
  | none, e => ∃ o d a b n : Int, ∃ t : ByteArray, e = .returned (.tuple #[instV o d a b n, .string t, .bool false])
theorem row_free {w : World} {g : Nat} {cs : Array Value} {t : TypeId} (h : w.heap[g]? = some (.cells cs t)) (i : Nat) : w.frozen? ⟨g, i, none⟩ = false := by simp [World.frozen?, h]
theorem row_alloc {w : World} {g : Nat} {o : Obj} (h : w.heap[g]? = some o) (A : Obj) : (w.alloc A).heap[g]? = some o := by
  rw [((Below.refl w.heap.size w).alloc (Nat.le_refl _) A).block g (Array.getElem?_eq_some_iff.1 h).1]; exact h

theorem results_cell_tmp2 {fn : Func} {p u v : Tmp} {ty : TypeId} (h : fn.results = #[.cell p ty, .tmp u, .tmp v]) (tmps : Array Value) (P : Program) (w : World) :
    (results fn tmps).run P w = ((asAddr (tmps.getD p undef)).run P w).andThen fun a w₁ => ((loadVar ty a).run P w₁).andThen fun x w₂ => .ok (.tuple #[x, tmps.getD u undef, tmps.getD v undef]) w₂ := by
  simp only [results, h]
  simp [Sem.run_bind, Result.andThen]
theorem res22 (tmps : Array Value) (w : World) (g : Nat) (a b c d e : Value) (hp : tmps.getD 2 undef = .pointer (some ⟨g, 0, none⟩)) (hg : w.heap[g]? = some (.cells #[a, b, c, d, e] 39)) :
    (results Tryz.f22 tmps).run Tryz.prog w = .ok (.tuple #[.agg #[a, b, c, d, e], tmps.getD 3 undef, tmps.getD 4 undef]) w := by
  rw [results_cell_tmp2 Tryz.results22, hp]
  have h1 : (loadVar 39 ⟨g, 0, none⟩).run Tryz.prog w = .ok (.agg #[a, b, c, d, e]) w := run_loadVar_row w g 39 39 _ (0, 0) _ hg Tryz.underlying39 rfl (by kernel_rfl)
  simp only [asAddr, Sem.run_pure, Result.andThen_ok, h1]
theorem shp_two : ∀ o, o < 32 → 1 ≤ o → o ≠ 31 → 2 ≤ (shpV o).length := by decide
theorem one5 (a b c d e : Int) : (#[Value.int .i64 a, .int .i64 b, .int .i64 c, .int .i64 d, .int .i64 e] : Array Value).all (·.oneCell') = true := by simp [Value.oneCell']
/-- Of a line without blanks: which op it is, if it has no parts. -/
theorem read_plain (s : By) (h : cutC 32 s = (s, [], false)) : readV s = if opV s = 31 then some ⟨31, 0, 0, 0, 0, []⟩ else none := by
  unfold readV
  rw [h]
  simp only
  by_cases h0 : opV s = 0
  · rw [if_pos h0, if_neg (by omega)]
  · rw [if_neg h0]
    by_cases h1 : opV s = 31
    · rw [if_pos h1, h1]; rfl
    · rw [if_neg h1]
      have hle := opV_le s
      have h2 := shp_two (opV s) (by omega) (by omega) h1
      unfold shpV at h2
      rw [List.length_map] at h2
      cases hp : (opsL.getD (opV s) ([], [])).2 with
      | nil => rw [hp] at h2; simp at h2
      | cons k ks =>
        rw [hp] at h2
        rw [parts_fold]
        exact fold_len _ _ _ (by rw [show trimL [] = [] from rfl, show splitC 44 [] = [[]] from rfl]; simp only [List.length_cons, List.length_nil] at h2 ⊢; omega)

set_option maxRecDepth 100000 in
set_option maxHeartbeats 8000000 in
theorem readdoc_plain (s : ByteArray) (w : World) (he : Env w) (hs : s.size ≤ 1200) (hc : cutC 32 s.data.toList = (s.data.toList, [], false)) (hi : Lib.indexByte s.data.toList 32 = -1) :
    Calls Tryz.prog 22 #[.string s] w fun e w' => RdOut (readV s.data.toList) e ∧ Below w.heap.size w w' := by
  have HIW : Hid (∀ A : Obj, Calls Tryz.prog 53 #[.string s, .int .u8 32] (w.alloc A) fun e w' => e = .returned (.int .i64 (-1)) ∧ w' = w.alloc A) := fun A => by
    have := Tryz.strings_IndexByte s 32 (w.alloc A)
    rw [show (32 : Int).toNat.toUInt8 = 32 from rfl, hi] at this
    exact this
  clear hi
  go_enter Tryz.func22, Tryz.ntmps22
  go_wp2_with (go_at_call 53; refine (HIW.out _).mono ?_; rintro e w1 ⟨rfl, rfl⟩)
  obtain ⟨nm, hnm⟩ : ∃ nm : ByteArray, nm = s := ⟨_, rfl⟩
  have HNM : Hid (nm = s) := hnm
  rw [← hnm]
  clear hnm
  go_loopw [8] (fun i wr => ∃ k : Nat, 1 ≤ k ∧ k ≤ 40 ∧ i = .int .i64 k ∧ Hid (wr.heap[w.heap.size]? = some (.cells #[.int .i64 (opUp nm.data.toList k : Nat), .int .i64 0, .int .i64 0, .int .i64 0, .int .i64 0] 39)) ∧ Hid (Below w.heap.size w wr)) (fun i _ => 40 - (intOf i).toNat)
  case atStart =>
    refine ⟨1, by omega, by omega, rfl, ?_, (Below.refl _ _).alloc (Nat.le_refl _) _⟩
    have e0 : opUp nm.data.toList 1 = 0 := by unfold opUp; split <;> omega
    rw [e0]
    exact heap_alloc_last w _
  case round =>
    obtain ⟨k, hk1, hk2, rfl, HX, HB⟩ := hrel
    have HLo : Hid (w.heap.size < wr.heap.size) := (Array.getElem?_eq_some_iff.1 HX.out).1
    by_cases hlt : k < 40
    · have HS := opUp_step nm.data.toList k hk1
      have HAFT : Hid (∀ (w1 : World) (A : Obj), Below wr.heap.size wr w1 → (w1.alloc A).heap[w.heap.size]? = some (.cells #[.int .i64 (opUp nm.data.toList k : Nat), .int .i64 0, .int .i64 0, .int .i64 0, .int .i64 0] 39) ∧ (w1.alloc A).cell? ⟨w.heap.size, 0, none⟩ = some (.int .i64 (opUp nm.data.toList k : Nat)) ∧ (w1.alloc A).frozen? ⟨w.heap.size, 0, none⟩ = false ∧ Below w.heap.size w (w1.alloc A)) := fun w1 A hb => by
        have G0 : w1.heap[w.heap.size]? = some (.cells #[.int .i64 (opUp nm.data.toList k : Nat), .int .i64 0, .int .i64 0, .int .i64 0, .int .i64 0] 39) := by rw [hb.block _ HLo.out]; exact HX.out
        have G1 := row_alloc G0 A
        refine ⟨G1, by rw [cell_of_row _ _ _ _ _ _ G1]; rfl, row_free G1 0, (HB.out.trans (hb.mono (Nat.le_of_lt HLo.out))).alloc (by have := hb.size; have := HLo.out; omega) A⟩
      by_cases h31 : k ≤ 31
      · have HFm : Hid (FormNm (k : Int) ⟨(opN k).toArray⟩) := formNm_in k hk1 h31
        obtain ⟨ob, hob⟩ : ∃ ob : ByteArray, (⟨(opN k).toArray⟩ : ByteArray) = ob := ⟨_, rfl⟩
        rw [hob] at HFm
        by_cases heq : ob = nm
        · have HS' : Hid (opUp nm.data.toList (k + 1) = k) := by
            show _ = _
            rw [HS, if_pos ⟨h31, by rw [← heq, ← hob]; rfl⟩]
          clear HS hob
          rw [heq] at HFm
          clear heq
          go_wp2_with (go_at_call 32; fail)
          refine (HFm.out _).mono ?_
          rintro e w1 ⟨⟨kc, l, m, h, rfl⟩, hb⟩
          obtain ⟨G0, q0, f0, hb2⟩ := HAFT.out w1 (.cells #[.int .u8 kc, .int .u32 l, .int .u32 m, .int .u32 h, .string nm] 80) hb
          have HG0 : Hid ((w1.alloc (.cells #[.int .u8 kc, .int .u32 l, .int .u32 m, .int .u32 h, .string nm] 80)).heap[w.heap.size]? = some (.cells #[.int .i64 (opUp nm.data.toList k : Nat), .int .i64 0, .int .i64 0, .int .i64 0, .int .i64 0] 39)) := G0
          have HB2 : Hid (Below w.heap.size w (w1.alloc (.cells #[.int .u8 kc, .int .u32 l, .int .u32 m, .int .u32 h, .string nm] 80))) := hb2
          clear G0 hb2 hb
          go_wp2
          refine ⟨⟨k + 1, by omega, by omega, by go_num, ?_, HB2.out.setCell (p := ⟨w.heap.size, 0, none⟩) (Nat.le_refl _) _⟩, by simp [intOf]; omega⟩
          show _ = _
          rw [heap_setCell_same _ _ _ _ _ _ HG0.out, HS'.out]
          rfl
        · have HS' : Hid (opUp nm.data.toList (k + 1) = opUp nm.data.toList k) := by
            show _ = _
            rw [HS, if_neg (fun e => heq (by rw [← hob]; exact ba_inj e.2))]
          clear HS hob
          have hne := bytes_neq heq
          clear heq
          go_wp2_with (go_at_call 32; fail)
          refine (HFm.out _).mono ?_
          rintro e w1 ⟨⟨kc, l, m, h, rfl⟩, hb⟩
          obtain ⟨G0, q0, f0, hb2⟩ := HAFT.out w1 (.cells #[.int .u8 kc, .int .u32 l, .int .u32 m, .int .u32 h, .string ob] 80) hb
          have HG0 : Hid ((w1.alloc (.cells #[.int .u8 kc, .int .u32 l, .int .u32 m, .int .u32 h, .string ob] 80)).heap[w.heap.size]? = some (.cells #[.int .i64 (opUp nm.data.toList k : Nat), .int .i64 0, .int .i64 0, .int .i64 0, .int .i64 0] 39)) := G0
          have HB2 : Hid (Below w.heap.size w (w1.alloc (.cells #[.int .u8 kc, .int .u32 l, .int .u32 m, .int .u32 h, .string ob] 80))) := hb2
          clear G0 hb2 hb q0 f0
          go_wp2
          exact ⟨⟨k + 1, by omega, by omega, by go_num, by rw [HS'.out]; exact HG0.out, HB2.out⟩, by simp [intOf]; omega⟩
      · have HS' : Hid (opUp nm.data.toList (k + 1) = opUp nm.data.toList k) := by
          show _ = _
          rw [HS, if_neg (fun e => h31 e.1)]
        have HFo : Hid (∀ w, Calls Tryz.prog 32 #[.int .i64 (k : Int)] w fun e w' => e = .returned (.tuple #[.agg zero45, .bool false]) ∧ Below w.heap.size w w') := fun w => formOf_out k (.inr (by omega)) w
        clear HS
        go_wp2_with (go_at_call 32; fail)
        refine (HFo.out _).mono ?_
        rintro e w1 ⟨rfl, hb⟩
        obtain ⟨G0, q0, f0, hb2⟩ := HAFT.out w1 (.cells zero45 80) hb
        have HG0 : Hid ((w1.alloc (.cells zero45 80)).heap[w.heap.size]? = some (.cells #[.int .i64 (opUp nm.data.toList k : Nat), .int .i64 0, .int .i64 0, .int .i64 0, .int .i64 0] 39)) := G0
        have HB2 : Hid (Below w.heap.size w (w1.alloc (.cells zero45 80))) := hb2
        clear G0 hb2 hb q0 f0
        go_wp2
        exact ⟨⟨k + 1, by omega, by omega, by go_num, by rw [HS'.out]; exact HG0.out, HB2.out⟩, by simp [intOf]; omega⟩
    · obtain rfl : k = 40 := by omega
      have HRV : Hid (readV nm.data.toList = if opV nm.data.toList = 31 then some ⟨31, 0, 0, 0, 0, []⟩ else none) := by
        show _ = _
        rw [HNM.out]; exact read_plain _ hc
      have HOP := opUp_all nm.data.toList
      obtain ⟨o, ho⟩ : ∃ o, o = opV nm.data.toList := ⟨_, rfl⟩
      have ho31 : o ≤ 31 := by rw [ho]; exact opV_le _
      have HX' : Hid (wr.heap[w.heap.size]? = some (.cells #[.int .i64 (o : Int), .int .i64 0, .int .i64 0, .int .i64 0, .int .i64 0] 39)) := by
        have := HX.out
        rw [HOP, ← ho] at this
        exact this
      have HRV' : Hid (readV nm.data.toList = if o = 31 then some ⟨31, 0, 0, 0, 0, []⟩ else none) := by rw [ho]; exact HRV.out
      have HSh : Hid (Calls Tryz.prog 33 #[.int .i64 (o : Int)] wr fun e w' => e = .returned (.string ⟨(shpV o).toArray⟩) ∧ Below wr.heap.size wr w') := shape_doc o wr
      have q0 : wr.cell? ⟨w.heap.size, 0, none⟩ = some (.int .i64 (o : Int)) := by rw [cell_of_row _ _ _ _ _ _ HX'.out]; rfl
      have HM : Hid (∀ w2, Below wr.heap.size wr w2 → w2.heap[w.heap.size]? = some (.cells #[.int .i64 (o : Int), .int .i64 0, .int .i64 0, .int .i64 0, .int .i64 0] 39) ∧ w2.cell? ⟨w.heap.size, 0, none⟩ = some (.int .i64 (o : Int)) ∧ w2.cell? ⟨w.heap.size, 1, none⟩ = some (.int .i64 0) ∧ w2.cell? ⟨w.heap.size, 2, none⟩ = some (.int .i64 0) ∧ w2.cell? ⟨w.heap.size, 3, none⟩ = some (.int .i64 0) ∧ w2.cell? ⟨w.heap.size, 4, none⟩ = some (.int .i64 0) ∧ Below w.heap.size w w2) := fun w2 hb => by
        have G0 : w2.heap[w.heap.size]? = some (.cells #[.int .i64 (o : Int), .int .i64 0, .int .i64 0, .int .i64 0, .int .i64 0] 39) := by rw [hb.block _ HLo.out]; exact HX'.out
        exact ⟨G0, by rw [cell_of_row _ _ _ _ _ _ G0]; rfl, by rw [cell_of_row _ _ _ _ _ _ G0]; rfl, by rw [cell_of_row _ _ _ _ _ _ G0]; rfl, by rw [cell_of_row _ _ _ _ _ _ G0]; rfl, by rw [cell_of_row _ _ _ _ _ _ G0]; rfl, HB.out.trans (hb.mono (Nat.le_of_lt HLo.out))⟩
      clear HX HRV HOP ho hc
      have HTwo : Hid (1 ≤ o → o ≠ 31 → 2 ≤ (⟨(shpV o).toArray⟩ : ByteArray).size) := fun h1 h2 => by
        have := shp_two o (by omega) h1 h2
        simpa [ByteArray.size] using this
      by_cases h31 : o = 31
      · subst h31
        have eS : (⟨(shpV 31).toArray⟩ : ByteArray) = ⟨#[]⟩ := rfl
        rw [eS] at HSh
        go_wp2_with (go_at_call 33; refine HSh.out.mono ?_; rintro e w2 ⟨rfl, hb⟩; obtain ⟨G0, p0, p1, p2, p3, p4, hb2⟩ := HM.out w2 hb; have HG0 : Hid (w2.heap[w.heap.size]? = some (.cells #[.int .i64 ((31 : Nat) : Int), .int .i64 0, .int .i64 0, .int .i64 0, .int .i64 0] 39)) := G0; have HB2 : Hid (Below w.heap.size w w2) := hb2; clear hb hb2 G0)
        have hnx := fun ty => run_next_end (P := Tryz.prog) w2 ⟨#[]⟩ 0 ty (by decide)
        have G9 : (w2.iter ⟨#[]⟩ 0).heap[w.heap.size]? = some (.cells #[.int .i64 ((31 : Nat) : Int), .int .i64 0, .int .i64 0, .int .i64 0, .int .i64 0] 39) := row_alloc HG0.out _
        have L9 : w.heap.size < w2.heap.size := (Array.getElem?_eq_some_iff.1 HG0.out).1
        have t0 : (w2.iter ⟨#[]⟩ 0).cell? ⟨w.heap.size, 0, none⟩ = some (.int .i64 ((31 : Nat) : Int)) := by rw [cell_of_row _ _ _ _ _ _ G9]; rfl
        have t1 : (w2.iter ⟨#[]⟩ 0).cell? ⟨w.heap.size, 1, none⟩ = some (.int .i64 0) := by rw [cell_of_row _ _ _ _ _ _ G9]; rfl
        have t2 : (w2.iter ⟨#[]⟩ 0).cell? ⟨w.heap.size, 2, none⟩ = some (.int .i64 0) := by rw [cell_of_row _ _ _ _ _ _ G9]; rfl
        have t3 : (w2.iter ⟨#[]⟩ 0).cell? ⟨w.heap.size, 3, none⟩ = some (.int .i64 0) := by rw [cell_of_row _ _ _ _ _ _ G9]; rfl
        have t4 : (w2.iter ⟨#[]⟩ 0).cell? ⟨w.heap.size, 4, none⟩ = some (.int .i64 0) := by rw [cell_of_row _ _ _ _ _ _ G9]; rfl
        have HG9 : Hid ((w2.iter ⟨#[]⟩ 0).heap[w.heap.size]? = some (.cells #[.int .i64 ((31 : Nat) : Int), .int .i64 0, .int .i64 0, .int .i64 0, .int .i64 0] 39)) := G9
        have HB9 : Hid (Below w.heap.size w (w2.iter ⟨#[]⟩ 0)) := HB2.out.alloc (Nat.le_of_lt L9) _
        clear G9 L9
        refine wp_loop_rounds 1 ?_
        rw [rounds_succ]
        go_wp2_with (refine wpList_store_row rfl 39 _ _ rfl _ 39 _ _ rfl rfl HG9.out (by kernel_rfl) rfl (one5 _ _ _ _ _) ?_)
        refine bodyPost_ret (res22 _ _ w.heap.size _ _ _ _ _ rfl (setRow_heap _ _ _ _ _ _ HG9.out)) rfl ⟨?_, below_setRow HB9.out (Nat.le_refl _) _⟩
        rw [← HNM.out, HRV'.out, if_pos trivial]
        exact ⟨_, rfl, fun _ => rfl⟩
      · have HN : Hid (readV nm.data.toList = none) := by
          show _ = _
          rw [HRV'.out, if_neg h31]
        generalize (⟨(shpV o).toArray⟩ : ByteArray) = hs at *
        by_cases h0 : o = 0
        · subst h0
          go_wp2_with (first | (go_at_call 33; refine HSh.out.mono ?_; rintro e w2 ⟨rfl, hb⟩; obtain ⟨G0, p0, p1, p2, p3, p4, hb2⟩ := HM.out w2 hb; have HG0 : Hid (w2.heap[w.heap.size]? = some (.cells #[.int .i64 ((0 : Nat) : Int), .int .i64 0, .int .i64 0, .int .i64 0, .int .i64 0] 39)) := G0; have HB2 : Hid (Below w.heap.size w w2) := hb2; clear hb hb2 G0) | (refine wpList_store_row rfl 39 _ _ rfl _ 39 _ _ rfl rfl HG0.out (by kernel_rfl) rfl (one5 _ _ _ _ _) ?_))
          refine bodyPost_ret (res22 _ _ w.heap.size _ _ _ _ _ rfl (setRow_heap _ _ _ _ _ _ HG0.out)) rfl ⟨?_, below_setRow HB2.out (Nat.le_refl _) _⟩
          rw [← HNM.out, HN.out]
          exact ⟨_, _, _, _, _, _, rfl⟩
        · have h2 := HTwo.out (by omega) h31
          have h0' : ((o : Int) == 0) = false := by simp; omega
          go_wp2_with (first | (go_at_call 33; refine HSh.out.mono ?_; rintro e w2 ⟨rfl, hb⟩; obtain ⟨G0, p0, p1, p2, p3, p4, hb2⟩ := HM.out w2 hb; have HG0 : Hid (w2.heap[w.heap.size]? = some (.cells #[.int .i64 (o : Int), .int .i64 0, .int .i64 0, .int .i64 0, .int .i64 0] 39)) := G0; have HB2 : Hid (Below w.heap.size w w2) := hb2; clear hb hb2 G0) | (refine wpList_store_row rfl 39 _ _ rfl _ 39 _ _ rfl rfl HG0.out (by kernel_rfl) rfl (one5 _ _ _ _ _) ?_))
          refine bodyPost_ret (res22 _ _ w.heap.size _ _ _ _ _ rfl (setRow_heap _ _ _ _ _ _ HG0.out)) rfl ⟨?_, below_setRow HB2.out (Nat.le_refl _) _⟩
          rw [← HNM.out, HN.out]
          exact ⟨_, _, _, _, _, _, rfl⟩
end Go.Proofs.YtjjjdplgdlaihaaGreatDoor
