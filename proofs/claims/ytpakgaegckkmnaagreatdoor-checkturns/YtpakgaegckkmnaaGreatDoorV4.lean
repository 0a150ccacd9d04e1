/- write walked, node by node. -/
import Derived.Test.YtpakgaegckkmnaaGreatDoorV3
import Derived.Lib.AppendIntMem
namespace Go.Proofs.YtpakgaegckkmnaaGreatDoor
set_option linter.unusedVariables false
set_option linter.unusedSimpArgs false
open Go Go.RowKit

theorem chain_inj : ∀ {a b : List Tr}, chain a = chain b → a = b
  | [], [], _ => rfl
  | [], _ :: _, h => by simp [chain] at h
  | _ :: _, [], h => by simp [chain] at h
  | x :: a, y :: b, h => by
    simp only [chain] at h
    injection h with h1 h2
    injection h1 with h1 _
    injection h2 with h2 _
    rw [h1, chain_inj h2]
theorem wr_nil : WrC .nil := by
  intro S B b s w v he hb hx hl
  have hv : v = .pointer none := by rw [ExAt] at hx; exact hx
  subst hv
  have HPo : Hid (WPost B b s (wrT .nil) w (.returned (.tuple #[])) w) := ⟨rfl, by simpa [wrT] using hb, FrB.refl _ _ _⟩
  generalize hG : WPost B b s (wrT .nil) w = G at *
  clear he hb hx hl hG
  go_enter Tryz.func52, Tryz.ntmps52
  go_wp2
  refine bodyPost_ret (results_none rfl _ _ _) rfl ?_
  exact HPo.out

set_option maxRecDepth 100000 in
set_option maxHeartbeats 4000000 in
theorem wr_num {a n : Int} {nm op : By} {l r g : Tr} (h0 : -9223372036854775808 ≤ n) (h1 : n ≤ 9223372036854775807) : WrC (nd 1 a n nm op l r g) := by
  intro S B b s w v he hb hx hl
  have hT : wrT (nd 1 a n nm op l r g) = Lib.itoa n := by rw [wrT]; simp
  rw [hT] at hl
  rw [hT]
  obtain ⟨q, vl, vr, vg, ys, _, rfl, hq, hxl, hxr, hro, hrs, hxg⟩ := nd_open hx
  obtain ⟨y3, hy3, hyt3⟩ := str_y nm
  obtain ⟨y4, hy4, hyt4⟩ := str_y op
  rw [hy3, hy4] at hq
  have HPo : Hid (∀ w', Bd B b (s ++ (Lib.itoa n)) w' → FrB B b w w' → WPost B b s (Lib.itoa n) w (.returned (.tuple #[])) w') := fun w' h1 h2 => ⟨rfl, h1, h2⟩
  generalize hG : WPost B b s (Lib.itoa n) w = G at *
  have HE : Hid (EnvW B w) := he
  have HB : Hid (Bd B b s w) := hb
  have HF0 : Hid (FrB B b w w) := FrB.refl _ _ _
  have HK : Hid (∀ W, FrB B b w W → W.heap[q]? = some (.cells #[.int .i64 1, .int .i64 a, .int .i64 n, .string y3, .string y4, vl, vr, vg] 134)) := fun W h => (h.keeps (fun _ => True) hb) q _ 134 trivial (by decide) hq
  have HXL : Hid (∀ W, FrB B b w W → ExAt S W l vl) := fun W h => (h.keeps S hb).ex hxl
  have HXR : Hid (∀ W, FrB B b w W → ExAt S W r vr) := fun W h => (h.keeps S hb).ex hxr
  have HY3 : Hid (y3.data.toList = nm ∧ y3.size = nm.length) := ⟨hyt3, by rw [← hyt3]; simp⟩
  have HY4 : Hid (y4.data.toList = op ∧ y4.size = op.length) := ⟨hyt4, by rw [← hyt4]; simp⟩
  obtain ⟨x, hxx⟩ : ∃ x : ByteArray, x = ⟨(Lib.itoa n).toArray⟩ := ⟨_, rfl⟩
  have HFm : Hid (Calls Tryz.prog 64 #[.int .i64 n, .int .i64 10] w fun e w' => e = .returned (.string x) ∧ Below w.heap.size w w') := by
    rw [hxx]
    exact (Tryz.strconv_FormatInt_10 n h0 h1 w he.pow).mono fun e w' ⟨a, k, os, e2⟩ => ⟨a, by rw [e2]; exact Lib.below_grow _ _ (Nat.le_refl _) _ _⟩
  have HXX : Hid (x.data.toList = Lib.itoa n ∧ x.size = (Lib.itoa n).length) := by rw [hxx]; exact ⟨rfl, by simp [ByteArray.size]⟩
  have HL : Hid (s.length + (Lib.itoa n).length ≤ 100000000000) := hl
  have h64 : -9223372036854775808 ≤ n ∧ n ≤ 9223372036854775807 := ⟨h0, h1⟩
  have k0w := cell_at (i := 0) (HK.out w HF0.out) rfl
  have k2w := cell_at (i := 2) (HK.out w HF0.out) rfl
  clear hG he hb hx hl hT hq hxl hxr hro hrs hxg hy3 hy4 hyt3 hyt4
  clear hxx
  go_enter Tryz.func52, Tryz.ntmps52
  go_wp2_with (go_at_call 64; fail)
  refine HFm.out.mono ?_
  rintro e w1 ⟨rfl, hb1⟩
  have HF1 : Hid (FrB B b w w1) := FrB.of hb1 HE.out.le
  have HD1 : Hid (Bd B b s w1) := HB.out.below hb1
  clear hb1
  go_wp2_with (go_at_call 17; fail)
  refine (ws x HD1.out (HE.out.go HF1.out).le (by rw [HXX.out.2]; have := HL.out; omega)).mono ?_
  rintro e w2 ⟨rfl, hd, hf⟩
  rw [HXX.out.1] at hd
  have HD2 : Hid (Bd B b (s ++ Lib.itoa n) w2) := hd
  have HF2 : Hid (FrB B b w w2) := HF1.out.trans hf
  clear hd hf
  go_wp2
  go_end0
  exact HPo.out w2 HD2.out HF2.out

set_option maxRecDepth 100000 in
set_option maxHeartbeats 4000000 in
theorem wr_name {a n : Int} {nm op : By} {l r g : Tr}  : WrC (nd 2 a n nm op l r g) := by
  intro S B b s w v he hb hx hl
  have hT : wrT (nd 2 a n nm op l r g) = nm := by rw [wrT]; simp
  rw [hT] at hl
  rw [hT]
  obtain ⟨q, vl, vr, vg, ys, _, rfl, hq, hxl, hxr, hro, hrs, hxg⟩ := nd_open hx
  obtain ⟨y3, hy3, hyt3⟩ := str_y nm
  obtain ⟨y4, hy4, hyt4⟩ := str_y op
  rw [hy3, hy4] at hq
  have HPo : Hid (∀ w', Bd B b (s ++ (nm)) w' → FrB B b w w' → WPost B b s (nm) w (.returned (.tuple #[])) w') := fun w' h1 h2 => ⟨rfl, h1, h2⟩
  generalize hG : WPost B b s (nm) w = G at *
  have HE : Hid (EnvW B w) := he
  have HB : Hid (Bd B b s w) := hb
  have HF0 : Hid (FrB B b w w) := FrB.refl _ _ _
  have HK : Hid (∀ W, FrB B b w W → W.heap[q]? = some (.cells #[.int .i64 2, .int .i64 a, .int .i64 n, .string y3, .string y4, vl, vr, vg] 134)) := fun W h => (h.keeps (fun _ => True) hb) q _ 134 trivial (by decide) hq
  have HXL : Hid (∀ W, FrB B b w W → ExAt S W l vl) := fun W h => (h.keeps S hb).ex hxl
  have HXR : Hid (∀ W, FrB B b w W → ExAt S W r vr) := fun W h => (h.keeps S hb).ex hxr
  have HY3 : Hid (y3.data.toList = nm ∧ y3.size = nm.length) := ⟨hyt3, by rw [← hyt3]; simp⟩
  have HY4 : Hid (y4.data.toList = op ∧ y4.size = op.length) := ⟨hyt4, by rw [← hyt4]; simp⟩
  have HL : Hid (s.length + nm.length ≤ 100000000000) := hl
  have k0w := cell_at (i := 0) (HK.out w HF0.out) rfl
  have k3w := cell_at (i := 3) (HK.out w HF0.out) rfl
  clear hG he hb hx hl hT hq hxl hxr hro hrs hxg hy3 hy4 hyt3 hyt4
  go_enter Tryz.func52, Tryz.ntmps52
  go_wp2_with (go_at_call 17; fail)
  refine (ws y3 HB.out HE.out.le (by rw [HY3.out.2]; have := HL.out; omega)).mono ?_
  rintro e w2 ⟨rfl, hd, hf⟩
  rw [HY3.out.1] at hd
  have HD2 : Hid (Bd B b (s ++ nm) w2) := hd
  have HF2 : Hid (FrB B b w w2) := hf
  clear hd hf
  go_wp2
  go_end0
  exact HPo.out w2 HD2.out HF2.out

set_option maxRecDepth 100000 in
set_option maxHeartbeats 4000000 in
theorem wr_un {a n : Int} {nm op : By} {l r g : Tr} (ht : l = .nil ∨ IsNd l) (IL : WrC l) : WrC (nd 4 a n nm op l r g) := by
  intro S B b s w v he hb hx hl
  have hT : wrT (nd 4 a n nm op l r g) = op ++ hold l 7 (wrT l) := by rw [wrT]; simp
  rw [hT] at hl
  rw [hT]
  obtain ⟨q, vl, vr, vg, ys, _, rfl, hq, hxl, hxr, hro, hrs, hxg⟩ := nd_open hx
  obtain ⟨y3, hy3, hyt3⟩ := str_y nm
  obtain ⟨y4, hy4, hyt4⟩ := str_y op
  rw [hy3, hy4] at hq
  have HPo : Hid (∀ w', Bd B b (s ++ (op ++ hold l 7 (wrT l))) w' → FrB B b w w' → WPost B b s (op ++ hold l 7 (wrT l)) w (.returned (.tuple #[])) w') := fun w' h1 h2 => ⟨rfl, h1, h2⟩
  generalize hG : WPost B b s (op ++ hold l 7 (wrT l)) w = G at *
  have HE : Hid (EnvW B w) := he
  have HB : Hid (Bd B b s w) := hb
  have HF0 : Hid (FrB B b w w) := FrB.refl _ _ _
  have HK : Hid (∀ W, FrB B b w W → W.heap[q]? = some (.cells #[.int .i64 4, .int .i64 a, .int .i64 n, .string y3, .string y4, vl, vr, vg] 134)) := fun W h => (h.keeps (fun _ => True) hb) q _ 134 trivial (by decide) hq
  have HXL : Hid (∀ W, FrB B b w W → ExAt S W l vl) := fun W h => (h.keeps S hb).ex hxl
  have HXR : Hid (∀ W, FrB B b w W → ExAt S W r vr) := fun W h => (h.keeps S hb).ex hxr
  have HY3 : Hid (y3.data.toList = nm ∧ y3.size = nm.length) := ⟨hyt3, by rw [← hyt3]; simp⟩
  have HY4 : Hid (y4.data.toList = op ∧ y4.size = op.length) := ⟨hyt4, by rw [← hyt4]; simp⟩
  have HL : Hid (s.length + op.length + (hold l 7 (wrT l)).length ≤ 100000000000) := by show _ ≤ _; simp at hl; omega
  have HHe : Hid (∀ (s : By) (W : World), FrB B b w W → Bd B b s W → s.length + (hold l 7 (wrT l)).length ≤ 100000000000 → Calls Tryz.prog 65 #[.pointer (some ⟨b, 0, none⟩), vl, .int .i64 7] W (WPost B b s (hold l 7 (wrT l)) W)) := fun s W h1 h2 h3 => held_w IL ht 7 (by omega) S B b s W vl (he.go h1) h2 ((h1.keeps S hb).ex hxl) h3
  have k0w := cell_at (i := 0) (HK.out w HF0.out) rfl
  have k4w := cell_at (i := 4) (HK.out w HF0.out) rfl
  clear hG he hb hx hl hT hq hxl hxr hro hrs hxg hy3 hy4 hyt3 hyt4
  go_enter Tryz.func52, Tryz.ntmps52
  go_wp2_with (go_at_call 17; fail)
  refine (ws y4 HB.out HE.out.le (by rw [HY4.out.2]; have := HL.out; omega)).mono ?_
  rintro e w2 ⟨rfl, hd, hf⟩
  rw [HY4.out.1] at hd
  have HD2 : Hid (Bd B b (s ++ op) w2) := hd
  have HF2 : Hid (FrB B b w w2) := hf
  clear hd hf
  have k5w2 := cell_at (i := 5) (HK.out w2 HF2.out) rfl
  go_wp2_with (go_at_call 65; fail)
  refine (HHe.out _ w2 HF2.out HD2.out (by have := HL.out; simp; omega)).mono ?_
  rintro e w3 ⟨rfl, hd, hf⟩
  have HD3 : Hid (Bd B b (s ++ (op ++ hold l 7 (wrT l))) w3) := (by simpa using hd : Bd B b _ w3)
  have HF3 : Hid (FrB B b w w3) := HF2.out.trans hf
  clear hd hf
  go_wp2
  go_end0
  exact HPo.out w3 HD3.out HF3.out

set_option maxRecDepth 100000 in
set_option maxHeartbeats 4000000 in
theorem wr_call {a n : Int} {nm op : By} {l r g : Tr} {xs : List Tr} (hg : g = chain xs) (IX : ∀ x ∈ xs, WrC x) (hlen : xs.length ≤ 1000000) : WrC (nd 5 a n nm op l r g) := by
  intro S B b s w v he hb hx hl
  have hT : wrT (nd 5 a n nm op l r g) = (nm ++ [40]) ++ wrT g ++ [41] := by rw [wrT]; simp
  rw [hT] at hl
  rw [hT]
  obtain ⟨q, vl, vr, vg, ys, _, rfl, hq, hxl, hxr, hro, hrs, hxg⟩ := nd_open hx
  obtain ⟨y3, hy3, hyt3⟩ := str_y nm
  obtain ⟨y4, hy4, hyt4⟩ := str_y op
  rw [hy3, hy4] at hq
  have HPo : Hid (∀ w', Bd B b (s ++ ((nm ++ [40]) ++ wrT g ++ [41])) w' → FrB B b w w' → WPost B b s ((nm ++ [40]) ++ wrT g ++ [41]) w (.returned (.tuple #[])) w') := fun w' h1 h2 => ⟨rfl, h1, h2⟩
  generalize hG : WPost B b s ((nm ++ [40]) ++ wrT g ++ [41]) w = G at *
  have HE : Hid (EnvW B w) := he
  have HB : Hid (Bd B b s w) := hb
  have HF0 : Hid (FrB B b w w) := FrB.refl _ _ _
  have HK : Hid (∀ W, FrB B b w W → W.heap[q]? = some (.cells #[.int .i64 5, .int .i64 a, .int .i64 n, .string y3, .string y4, vl, vr, vg] 134)) := fun W h => (h.keeps (fun _ => True) hb) q _ 134 trivial (by decide) hq
  have HXL : Hid (∀ W, FrB B b w W → ExAt S W l vl) := fun W h => (h.keeps S hb).ex hxl
  have HXR : Hid (∀ W, FrB B b w W → ExAt S W r vr) := fun W h => (h.keeps S hb).ex hxr
  have HY3 : Hid (y3.data.toList = nm ∧ y3.size = nm.length) := ⟨hyt3, by rw [← hyt3]; simp⟩
  have HY4 : Hid (y4.data.toList = op ∧ y4.size = op.length) := ⟨hyt4, by rw [← hyt4]; simp⟩
  obtain ⟨xs', hgx, hxl2, hxe⟩ := chain_open ys g hxg
  have hxs : xs' = xs := chain_inj (hgx.symm.trans hg)
  subst hxs
  have hj : wrT g = joinT xs' := by rw [hgx, join_chain]
  obtain ⟨qv, cv, rfl⟩ := own_slice hro
  obtain ⟨nv, hnv⟩ : ∃ nv, nv = ys.length := ⟨_, rfl⟩
  have hdr : Below w.heap.size w w.drew := (Below.refl _ _).drew
  have hfd : FrB B b w w.drew := FrB.of hdr he.le
  have HC : Hid (Calls Tryz.prog 67 #[.pointer (some ⟨b, 0, none⟩), .string y3, .slice qv nv cv] w.drew (WPost B b s ((y3.data.toList ++ [40]) ++ joinT xs' ++ [41]) w.drew)) := by
    refine call_w IX S B b s w.drew y3 qv nv cv ys (he.go hfd) (hb.below hdr) (by rw [hnv]; exact hro) (by rw [hnv, hxl2]) hnv.symm (fun i x y h1 h2 => (hfd.keeps S hb).ex (hxe i x y h1 h2)) ?_ (by rw [hnv, ← hxl2]; exact hlen)
    rw [HY3.out.2, ← hj]
    simp at hl
    omega
  rw [HY3.out.1, ← hj] at HC
  have HFd : Hid (FrB B b w w.drew) := hfd
  rw [← hnv] at HK
  have k0w := cell_at (i := 0) (HK.out w HF0.out) rfl
  have k3w := cell_at (i := 3) (HK.out w HF0.out) rfl
  have k7w := cell_at (i := 7) (HK.out w HF0.out) rfl
  clear hgx hxl2 hxe hj hnv hg hlen IX hdr hfd
  clear hG he hb hx hl hT hq hxl hxr hro hrs hxg hy3 hy4 hyt3 hyt4
  go_enter Tryz.func52, Tryz.ntmps52
  go_wp2_with (go_at_call 67; fail)
  go_region_with (go_at_call 67; refine HC.out.mono ?_; rintro e w2 ⟨rfl, hd, hf⟩; have HD2 : Hid (Bd B b (s ++ ((nm ++ [40]) ++ wrT g ++ [41])) w2) := hd; have HF2 : Hid (FrB B b w w2) := HFd.out.trans hf; clear hd hf)
  all_goals
    go_wp2
    go_end0
    exact HPo.out w2 HD2.out HF2.out

set_option maxRecDepth 100000 in
set_option maxHeartbeats 4000000 in
theorem wr_new {a n : Int} {nm op : By} {l r g : Tr} (ht : l = .nil ∨ IsNd l) (IL : WrC l) : WrC (nd 6 a n nm op l r g) := by
  intro S B b s w v he hb hx hl
  have hT : wrT (nd 6 a n nm op l r g) = ([110, 101, 119] ++ [40]) ++ wrT l ++ [41] := by rw [wrT]; simp
  rw [hT] at hl
  rw [hT]
  obtain ⟨q, vl, vr, vg, ys, _, rfl, hq, hxl, hxr, hro, hrs, hxg⟩ := nd_open hx
  obtain ⟨y3, hy3, hyt3⟩ := str_y nm
  obtain ⟨y4, hy4, hyt4⟩ := str_y op
  rw [hy3, hy4] at hq
  have HPo : Hid (∀ w', Bd B b (s ++ (([110, 101, 119] ++ [40]) ++ wrT l ++ [41])) w' → FrB B b w w' → WPost B b s (([110, 101, 119] ++ [40]) ++ wrT l ++ [41]) w (.returned (.tuple #[])) w') := fun w' h1 h2 => ⟨rfl, h1, h2⟩
  generalize hG : WPost B b s (([110, 101, 119] ++ [40]) ++ wrT l ++ [41]) w = G at *
  have HE : Hid (EnvW B w) := he
  have HB : Hid (Bd B b s w) := hb
  have HF0 : Hid (FrB B b w w) := FrB.refl _ _ _
  have HK : Hid (∀ W, FrB B b w W → W.heap[q]? = some (.cells #[.int .i64 6, .int .i64 a, .int .i64 n, .string y3, .string y4, vl, vr, vg] 134)) := fun W h => (h.keeps (fun _ => True) hb) q _ 134 trivial (by decide) hq
  have HXL : Hid (∀ W, FrB B b w W → ExAt S W l vl) := fun W h => (h.keeps S hb).ex hxl
  have HXR : Hid (∀ W, FrB B b w W → ExAt S W r vr) := fun W h => (h.keeps S hb).ex hxr
  have HY3 : Hid (y3.data.toList = nm ∧ y3.size = nm.length) := ⟨hyt3, by rw [← hyt3]; simp⟩
  have HY4 : Hid (y4.data.toList = op ∧ y4.size = op.length) := ⟨hyt4, by rw [← hyt4]; simp⟩
  obtain ⟨pv, rfl⟩ : ∃ pv, vl = .pointer pv := by
    rcases ht with rfl | ht
    · rw [ExAt] at hxl; exact ⟨_, hxl⟩
    · obtain ⟨bb, e⟩ := IsNd.ptr ht hxl; exact ⟨_, e⟩
  have HC : Hid (∀ (W : World) (q2 : Nat), FrB B b w W → Bd B b s W → W.heap[q2]? = some (.cells #[.pointer pv] 84) → Calls Tryz.prog 67 #[.pointer (some ⟨b, 0, none⟩), .string ⟨#[110, 101, 119]⟩, .slice (some ⟨q2, 0, none⟩) 1 1] W (WPost B b s (([110, 101, 119] ++ [40]) ++ wrT l ++ [41]) W)) := fun W q2 h1 h2 h3 => by
    refine call_w (xs := [l]) (fun x hx => by simp at hx; rw [hx]; exact IL) S B b s W ⟨#[110, 101, 119]⟩ (some ⟨q2, 0, none⟩) 1 1 [.pointer pv] (he.go h1) h2 ⟨rfl, .inr ⟨q2, 1, #[.pointer pv], rfl, Nat.zero_le _, h3, Nat.le_refl _, by unfold maxLen; omega, rfl, rfl⟩⟩ rfl rfl (fun i x y hx hy => ?_) ?_ (by omega)
    · cases i with
      | zero =>
        simp at hx hy
        subst hx; subst hy
        exact (h1.keeps S hb).ex hxl
      | succ i => simp at hx
    · show s.length + 3 + (wrT l).length + 2 ≤ _
      simp at hl
      omega
  have k0w := cell_at (i := 0) (HK.out w HF0.out) rfl
  have k5w := cell_at (i := 5) (HK.out w HF0.out) rfl
  clear hG he hb hx hl hT hq hxl hxr hro hrs hxg hy3 hy4 hyt3 hyt4
  go_enter Tryz.func52, Tryz.ntmps52
  go_wp2_with (go_at_call 67; fail)
  obtain ⟨W1, hW1⟩ : ∃ W1, W1 = w.alloc (.cells #[.pointer pv] 84) := ⟨_, rfl⟩
  have hb1 : Below w.heap.size w W1 := by rw [hW1]; exact (Below.refl _ _).alloc (Nat.le_refl _) _
  have HF1 : Hid (FrB B b w W1) := FrB.of hb1 HE.out.le
  have HD1 : Hid (Bd B b s W1) := HB.out.below hb1
  have HQ1 : Hid (W1.heap[w.heap.size]? = some (.cells #[.pointer pv] 84)) := by show _ = _; rw [hW1]; exact heap_alloc_last w _
  rw [← hW1]
  clear hW1 hb1
  refine (HC.out W1 w.heap.size HF1.out HD1.out HQ1.out).mono ?_
  rintro e w2 ⟨rfl, hd, hf⟩
  have HD2 : Hid (Bd B b (s ++ (([110, 101, 119] ++ [40]) ++ wrT l ++ [41])) w2) := hd
  have HF2 : Hid (FrB B b w w2) := HF1.out.trans hf
  clear hd hf
  go_wp2
  go_end0
  exact HPo.out w2 HD2.out HF2.out

set_option maxRecDepth 100000 in
set_option maxHeartbeats 4000000 in
theorem wr_len {a n : Int} {nm op : By} {l r g : Tr} (ht : l = .nil ∨ IsNd l) (IL : WrC l) : WrC (nd 7 a n nm op l r g) := by
  intro S B b s w v he hb hx hl
  have hT : wrT (nd 7 a n nm op l r g) = ([108, 101, 110] ++ [40]) ++ wrT l ++ [41] := by rw [wrT]; simp
  rw [hT] at hl
  rw [hT]
  obtain ⟨q, vl, vr, vg, ys, _, rfl, hq, hxl, hxr, hro, hrs, hxg⟩ := nd_open hx
  obtain ⟨y3, hy3, hyt3⟩ := str_y nm
  obtain ⟨y4, hy4, hyt4⟩ := str_y op
  rw [hy3, hy4] at hq
  have HPo : Hid (∀ w', Bd B b (s ++ (([108, 101, 110] ++ [40]) ++ wrT l ++ [41])) w' → FrB B b w w' → WPost B b s (([108, 101, 110] ++ [40]) ++ wrT l ++ [41]) w (.returned (.tuple #[])) w') := fun w' h1 h2 => ⟨rfl, h1, h2⟩
  generalize hG : WPost B b s (([108, 101, 110] ++ [40]) ++ wrT l ++ [41]) w = G at *
  have HE : Hid (EnvW B w) := he
  have HB : Hid (Bd B b s w) := hb
  have HF0 : Hid (FrB B b w w) := FrB.refl _ _ _
  have HK : Hid (∀ W, FrB B b w W → W.heap[q]? = some (.cells #[.int .i64 7, .int .i64 a, .int .i64 n, .string y3, .string y4, vl, vr, vg] 134)) := fun W h => (h.keeps (fun _ => True) hb) q _ 134 trivial (by decide) hq
  have HXL : Hid (∀ W, FrB B b w W → ExAt S W l vl) := fun W h => (h.keeps S hb).ex hxl
  have HXR : Hid (∀ W, FrB B b w W → ExAt S W r vr) := fun W h => (h.keeps S hb).ex hxr
  have HY3 : Hid (y3.data.toList = nm ∧ y3.size = nm.length) := ⟨hyt3, by rw [← hyt3]; simp⟩
  have HY4 : Hid (y4.data.toList = op ∧ y4.size = op.length) := ⟨hyt4, by rw [← hyt4]; simp⟩
  obtain ⟨pv, rfl⟩ : ∃ pv, vl = .pointer pv := by
    rcases ht with rfl | ht
    · rw [ExAt] at hxl; exact ⟨_, hxl⟩
    · obtain ⟨bb, e⟩ := IsNd.ptr ht hxl; exact ⟨_, e⟩
  have HC : Hid (∀ (W : World) (q2 : Nat), FrB B b w W → Bd B b s W → W.heap[q2]? = some (.cells #[.pointer pv] 84) → Calls Tryz.prog 67 #[.pointer (some ⟨b, 0, none⟩), .string ⟨#[108, 101, 110]⟩, .slice (some ⟨q2, 0, none⟩) 1 1] W (WPost B b s (([108, 101, 110] ++ [40]) ++ wrT l ++ [41]) W)) := fun W q2 h1 h2 h3 => by
    refine call_w (xs := [l]) (fun x hx => by simp at hx; rw [hx]; exact IL) S B b s W ⟨#[108, 101, 110]⟩ (some ⟨q2, 0, none⟩) 1 1 [.pointer pv] (he.go h1) h2 ⟨rfl, .inr ⟨q2, 1, #[.pointer pv], rfl, Nat.zero_le _, h3, Nat.le_refl _, by unfold maxLen; omega, rfl, rfl⟩⟩ rfl rfl (fun i x y hx hy => ?_) ?_ (by omega)
    · cases i with
      | zero =>
        simp at hx hy
        subst hx; subst hy
        exact (h1.keeps S hb).ex hxl
      | succ i => simp at hx
    · show s.length + 3 + (wrT l).length + 2 ≤ _
      simp at hl
      omega
  have k0w := cell_at (i := 0) (HK.out w HF0.out) rfl
  have k5w := cell_at (i := 5) (HK.out w HF0.out) rfl
  clear hG he hb hx hl hT hq hxl hxr hro hrs hxg hy3 hy4 hyt3 hyt4
  go_enter Tryz.func52, Tryz.ntmps52
  go_wp2_with (go_at_call 67; fail)
  obtain ⟨W1, hW1⟩ : ∃ W1, W1 = w.alloc (.cells #[.pointer pv] 84) := ⟨_, rfl⟩
  have hb1 : Below w.heap.size w W1 := by rw [hW1]; exact (Below.refl _ _).alloc (Nat.le_refl _) _
  have HF1 : Hid (FrB B b w W1) := FrB.of hb1 HE.out.le
  have HD1 : Hid (Bd B b s W1) := HB.out.below hb1
  have HQ1 : Hid (W1.heap[w.heap.size]? = some (.cells #[.pointer pv] 84)) := by show _ = _; rw [hW1]; exact heap_alloc_last w _
  rw [← hW1]
  clear hW1 hb1
  refine (HC.out W1 w.heap.size HF1.out HD1.out HQ1.out).mono ?_
  rintro e w2 ⟨rfl, hd, hf⟩
  have HD2 : Hid (Bd B b (s ++ (([108, 101, 110] ++ [40]) ++ wrT l ++ [41])) w2) := hd
  have HF2 : Hid (FrB B b w w2) := HF1.out.trans hf
  clear hd hf
  go_wp2
  go_end0
  exact HPo.out w2 HD2.out HF2.out

set_option maxRecDepth 100000 in
set_option maxHeartbeats 4000000 in
theorem wr_input {a n : Int} {nm op : By} {l r g : Tr}  : WrC (nd 9 a n nm op l r g) := by
  intro S B b s w v he hb hx hl
  have hT : wrT (nd 9 a n nm op l r g) = ([105, 110, 112, 117, 116] ++ [40]) ++ [41] := by rw [wrT]; simp
  rw [hT] at hl
  rw [hT]
  obtain ⟨q, vl, vr, vg, ys, _, rfl, hq, hxl, hxr, hro, hrs, hxg⟩ := nd_open hx
  obtain ⟨y3, hy3, hyt3⟩ := str_y nm
  obtain ⟨y4, hy4, hyt4⟩ := str_y op
  rw [hy3, hy4] at hq
  have HPo : Hid (∀ w', Bd B b (s ++ (([105, 110, 112, 117, 116] ++ [40]) ++ [41])) w' → FrB B b w w' → WPost B b s (([105, 110, 112, 117, 116] ++ [40]) ++ [41]) w (.returned (.tuple #[])) w') := fun w' h1 h2 => ⟨rfl, h1, h2⟩
  generalize hG : WPost B b s (([105, 110, 112, 117, 116] ++ [40]) ++ [41]) w = G at *
  have HE : Hid (EnvW B w) := he
  have HB : Hid (Bd B b s w) := hb
  have HF0 : Hid (FrB B b w w) := FrB.refl _ _ _
  have HK : Hid (∀ W, FrB B b w W → W.heap[q]? = some (.cells #[.int .i64 9, .int .i64 a, .int .i64 n, .string y3, .string y4, vl, vr, vg] 134)) := fun W h => (h.keeps (fun _ => True) hb) q _ 134 trivial (by decide) hq
  have HXL : Hid (∀ W, FrB B b w W → ExAt S W l vl) := fun W h => (h.keeps S hb).ex hxl
  have HXR : Hid (∀ W, FrB B b w W → ExAt S W r vr) := fun W h => (h.keeps S hb).ex hxr
  have HY3 : Hid (y3.data.toList = nm ∧ y3.size = nm.length) := ⟨hyt3, by rw [← hyt3]; simp⟩
  have HY4 : Hid (y4.data.toList = op ∧ y4.size = op.length) := ⟨hyt4, by rw [← hyt4]; simp⟩
  have HC : Hid (Calls Tryz.prog 67 #[.pointer (some ⟨b, 0, none⟩), .string ⟨#[105, 110, 112, 117, 116]⟩, .slice none 0 0] w (WPost B b s (([105, 110, 112, 117, 116] ++ [40]) ++ joinT [] ++ [41]) w)) := by
    refine call_w (xs := []) (fun x hx => by simp at hx) S B b s w ⟨#[105, 110, 112, 117, 116]⟩ none 0 0 [] he hb (World.ownsRow_nil _ _ _ _) rfl rfl (fun i x y hx => by simp at hx) ?_ (by omega)
    show s.length + 5 + 0 + 2 ≤ _
    simp at hl
    omega
  have k0w := cell_at (i := 0) (HK.out w HF0.out) rfl
  clear hG he hb hx hl hT hq hxl hxr hro hrs hxg hy3 hy4 hyt3 hyt4
  go_enter Tryz.func52, Tryz.ntmps52
  go_wp2_with (go_at_call 67; fail)
  refine HC.out.mono ?_
  rintro e w2 ⟨rfl, hd, hf⟩
  have HD2 : Hid (Bd B b (s ++ (([105, 110, 112, 117, 116] ++ [40]) ++ [41])) w2) := (by simpa [joinT] using hd : Bd B b _ w2)
  have HF2 : Hid (FrB B b w w2) := hf
  clear hd hf
  go_wp2
  go_end0
  exact HPo.out w2 HD2.out HF2.out

set_option maxRecDepth 100000 in
set_option maxHeartbeats 4000000 in
theorem wr_item {a n : Int} {nm op : By} {l r g : Tr} (ht : l = .nil ∨ IsNd l) (IL : WrC l) (IR : WrC r) : WrC (nd 8 a n nm op l r g) := by
  intro S B b s w v he hb hx hl
  have hT : wrT (nd 8 a n nm op l r g) = hold l 8 (wrT l) ++ ([91] ++ wrT r ++ [93]) := by rw [wrT]; simp
  rw [hT] at hl
  rw [hT]
  obtain ⟨q, vl, vr, vg, ys, _, rfl, hq, hxl, hxr, hro, hrs, hxg⟩ := nd_open hx
  obtain ⟨y3, hy3, hyt3⟩ := str_y nm
  obtain ⟨y4, hy4, hyt4⟩ := str_y op
  rw [hy3, hy4] at hq
  have HPo : Hid (∀ w', Bd B b (s ++ (hold l 8 (wrT l) ++ ([91] ++ wrT r ++ [93]))) w' → FrB B b w w' → WPost B b s (hold l 8 (wrT l) ++ ([91] ++ wrT r ++ [93])) w (.returned (.tuple #[])) w') := fun w' h1 h2 => ⟨rfl, h1, h2⟩
  generalize hG : WPost B b s (hold l 8 (wrT l) ++ ([91] ++ wrT r ++ [93])) w = G at *
  have HE : Hid (EnvW B w) := he
  have HB : Hid (Bd B b s w) := hb
  have HF0 : Hid (FrB B b w w) := FrB.refl _ _ _
  have HK : Hid (∀ W, FrB B b w W → W.heap[q]? = some (.cells #[.int .i64 8, .int .i64 a, .int .i64 n, .string y3, .string y4, vl, vr, vg] 134)) := fun W h => (h.keeps (fun _ => True) hb) q _ 134 trivial (by decide) hq
  have HXL : Hid (∀ W, FrB B b w W → ExAt S W l vl) := fun W h => (h.keeps S hb).ex hxl
  have HXR : Hid (∀ W, FrB B b w W → ExAt S W r vr) := fun W h => (h.keeps S hb).ex hxr
  have HY3 : Hid (y3.data.toList = nm ∧ y3.size = nm.length) := ⟨hyt3, by rw [← hyt3]; simp⟩
  have HY4 : Hid (y4.data.toList = op ∧ y4.size = op.length) := ⟨hyt4, by rw [← hyt4]; simp⟩
  have HL : Hid (s.length + (hold l 8 (wrT l)).length + (wrT r).length + 2 ≤ 100000000000) := by show _ ≤ _; simp at hl; omega
  have HH : Hid (Calls Tryz.prog 65 #[.pointer (some ⟨b, 0, none⟩), vl, .int .i64 8] w (WPost B b s (hold l 8 (wrT l)) w)) := held_w IL ht 8 (by omega) S B b s w vl he hb hxl (by simp at hl; omega)
  have HI : Hid (∀ (s : By) (W : World), FrB B b w W → Bd B b s W → s.length + (wrT r).length + 2 ≤ 100000000000 → Calls Tryz.prog 51 #[.pointer (some ⟨b, 0, none⟩), vr] W (WPost B b s ([91] ++ wrT r ++ [93]) W)) := fun s W h1 h2 h3 => item_at IR S B b s W vr (he.go h1) h2 ((h1.keeps S hb).ex hxr) h3
  have k0w := cell_at (i := 0) (HK.out w HF0.out) rfl
  have k5w := cell_at (i := 5) (HK.out w HF0.out) rfl
  clear hG he hb hx hl hT hq hxl hxr hro hrs hxg hy3 hy4 hyt3 hyt4
  go_enter Tryz.func52, Tryz.ntmps52
  go_wp2_with (go_at_call 65; fail)
  refine HH.out.mono ?_
  rintro e w2 ⟨rfl, hd, hf⟩
  have HD2 : Hid (Bd B b (s ++ hold l 8 (wrT l)) w2) := hd
  have HF2 : Hid (FrB B b w w2) := hf
  clear hd hf
  have k6w2 := cell_at (i := 6) (HK.out w2 HF2.out) rfl
  go_wp2_with (go_at_call 51; fail)
  refine (HI.out _ w2 HF2.out HD2.out (by have := HL.out; simp; omega)).mono ?_
  rintro e w3 ⟨rfl, hd, hf⟩
  have HD3 : Hid (Bd B b (s ++ (hold l 8 (wrT l) ++ ([91] ++ wrT r ++ [93]))) w3) := (by simpa using hd : Bd B b _ w3)
  have HF3 : Hid (FrB B b w w3) := HF2.out.trans hf
  clear hd hf
  go_wp2
  go_end0
  exact HPo.out w3 HD3.out HF3.out
end Go.Proofs.YtpakgaegckkmnaaGreatDoor
