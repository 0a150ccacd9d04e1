/- V4 V5 V6 VD -/
import Derived.Test.YtnfhpdbbfejioaaGreatDoorQ10
import Derived.Lib.AppendIntMem
import Derived.Deep.DeepCutAuto
import Derived.Lib.ItoaLen
namespace Go.Proofs.YtnfhpdbbfejioaaGreatDoor
set_option linter.unusedVariables false
set_option linter.unusedSimpArgs false
set_option maxRecDepth 100000
set_option maxHeartbeats 4000000
open Go Go.RowKit
theorem chain_inj : ∀ {a b : List Tr}, chain a = chain b → a = b
 | [], [], _ => rfl
 | [], _ :: _, h => by simp [chain] at h
 | _ :: _, [], h => by simp [chain] at h
 | x :: a, y :: b, h => by
  simp only [chain] at h
  injection h with h1 h2
  injection h1 with h1 _
  injection h2 with h2 _
  rw [h1, chain_inj h2]
theorem wr_nil : WrC .nil := by
 intro S B b s w v he hb hx hl
 have hv : v = .pointer none := by rw [ExAt] at hx; exact hx
 subst hv
 have HPo : Hid (zl B b s (wrT .nil) w (.returned (.tuple #[])) w) := ⟨rfl, by simpa [wrT] using hb, FrB.refl _ _ _⟩
 generalize hG : zl B b s (wrT .nil) w = G at *
 clear he hb hx hl hG
 go_enter Tryz.func101, Tryz.ntmps101
 go_wp2
 refine bodyPost_ret (results_none rfl _ _ _) rfl ?_
 exact HPo.out
theorem wr_num {a n : Int} {nm op : By} {l r g : Tr} (h0 : -9223372036854775808 ≤ n) (h1 : n ≤ 9223372036854775807) : WrC (nd 1 a n nm op l r g) := by
 intro S B b s w v he hb hx hl
 have hT : wrT (nd 1 a n nm op l r g) = Lib.itoa n := by rw [wrT]; simp
 rw [hT] at hl
 rw [hT]
 obtain ⟨q, vl, vr, vg, ys, _, rfl, hq, hxl, hxr, hro, hrs, hxg⟩ := zY hx
 obtain ⟨y3, hy3, hyt3⟩ := zt nm
 obtain ⟨y4, hy4, hyt4⟩ := zt op
 rw [hy3, hy4] at hq
 have HPo : Hid (∀ w', Bd B b (s ++ (Lib.itoa n)) w' → FrB B b w w' → zl B b s (Lib.itoa n) w (.returned (.tuple #[])) w') := fun w' h1 h2 => ⟨rfl, h1, h2⟩
 generalize hG : zl B b s (Lib.itoa n) w = G at *
 have HE : Hid (EnvW B w) := he
 have HB : Hid (Bd B b s w) := hb
 have HF0 : Hid (FrB B b w w) := FrB.refl _ _ _
 have HK : Hid (∀ W, FrB B b w W → W.heap[q]? = some (.cells #[.int .i64 1, .int .i64 a, .int .i64 n, .string y3, .string y4, vl, vr, vg] 252)) := fun W h => (h.keeps (fun _ => True) hb) q _ 252 trivial (by decide) hq
 have HXL : Hid (∀ W, FrB B b w W → ExAt S W l vl) := fun W h => (h.keeps S hb).ex hxl
 have HXR : Hid (∀ W, FrB B b w W → ExAt S W r vr) := fun W h => (h.keeps S hb).ex hxr
 have HY3 : Hid (y3.data.toList = nm ∧ y3.size = nm.length) := ⟨hyt3, by rw [← hyt3]; simp⟩
 have HY4 : Hid (y4.data.toList = op ∧ y4.size = op.length) := ⟨hyt4, by rw [← hyt4]; simp⟩
 obtain ⟨x, hxx⟩ : ∃ x : ByteArray, x = ⟨(Lib.itoa n).toArray⟩ := ⟨_, rfl⟩
 have HFm : Hid (Calls Tryz.prog 150 #[.int .i64 n, .int .i64 10] w fun e w' => e = .returned (.string x) ∧ Below w.heap.size w w') := by
  rw [hxx]
  exact (Tryz.strconv_FormatInt_10 n h0 h1 w he.pow).mono fun e w' ⟨a, k, os, e2⟩ => ⟨a, by rw [e2]; exact Lib.below_grow _ _ (Nat.le_refl _) _ _⟩
 have HXX : Hid (x.data.toList = Lib.itoa n ∧ x.size = (Lib.itoa n).length) := by rw [hxx]; exact ⟨rfl, by simp [ByteArray.size]⟩
 have HL : Hid (s.length + (Lib.itoa n).length ≤ 100000000000) := hl
 have h64 : -9223372036854775808 ≤ n ∧ n ≤ 9223372036854775807 := ⟨h0, h1⟩
 have k0w := z_ (i := 0) (HK.out w HF0.out) rfl
 have k2w := z_ (i := 2) (HK.out w HF0.out) rfl
 clear hG he hb hx hl hT hq hxl hxr hro hrs hxg hy3 hy4 hyt3 hyt4
 clear hxx
 go_enter Tryz.func101, Tryz.ntmps101
 go_wp2_with (go_at_call 150; fail)
 refine HFm.out.mono ?_
 rintro e w1 ⟨rfl, hb1⟩
 have HF1 : Hid (FrB B b w w1) := FrB.of hb1 HE.out.le
 have HD1 : Hid (Bd B b s w1) := HB.out.below hb1
 clear hb1
 go_wp2_with (go_at_call 34; fail)
 refine (ws x HD1.out (HE.out.go HF1.out).le (by rw [HXX.out.2]; have := HL.out; omega)).mono ?_
 rintro e w2 ⟨rfl, hd, hf⟩
 rw [HXX.out.1] at hd
 have HD2 : Hid (Bd B b (s ++ Lib.itoa n) w2) := hd
 have HF2 : Hid (FrB B b w w2) := HF1.out.trans hf
 clear hd hf
 go_wp2
 go_end0
 exact HPo.out w2 HD2.out HF2.out
theorem wr_name {a n : Int} {nm op : By} {l r g : Tr}  : WrC (nd 2 a n nm op l r g) := by
 intro S B b s w v he hb hx hl
 have hT : wrT (nd 2 a n nm op l r g) = nm := by rw [wrT]; simp
 rw [hT] at hl
 rw [hT]
 obtain ⟨q, vl, vr, vg, ys, _, rfl, hq, hxl, hxr, hro, hrs, hxg⟩ := zY hx
 obtain ⟨y3, hy3, hyt3⟩ := zt nm
 obtain ⟨y4, hy4, hyt4⟩ := zt op
 rw [hy3, hy4] at hq
 have HPo : Hid (∀ w', Bd B b (s ++ (nm)) w' → FrB B b w w' → zl B b s (nm) w (.returned (.tuple #[])) w') := fun w' h1 h2 => ⟨rfl, h1, h2⟩
 generalize hG : zl B b s (nm) w = G at *
 have HE : Hid (EnvW B w) := he
 have HB : Hid (Bd B b s w) := hb
 have HF0 : Hid (FrB B b w w) := FrB.refl _ _ _
 have HK : Hid (∀ W, FrB B b w W → W.heap[q]? = some (.cells #[.int .i64 2, .int .i64 a, .int .i64 n, .string y3, .string y4, vl, vr, vg] 252)) := fun W h => (h.keeps (fun _ => True) hb) q _ 252 trivial (by decide) hq
 have HXL : Hid (∀ W, FrB B b w W → ExAt S W l vl) := fun W h => (h.keeps S hb).ex hxl
 have HXR : Hid (∀ W, FrB B b w W → ExAt S W r vr) := fun W h => (h.keeps S hb).ex hxr
 have HY3 : Hid (y3.data.toList = nm ∧ y3.size = nm.length) := ⟨hyt3, by rw [← hyt3]; simp⟩
 have HY4 : Hid (y4.data.toList = op ∧ y4.size = op.length) := ⟨hyt4, by rw [← hyt4]; simp⟩
 have HL : Hid (s.length + nm.length ≤ 100000000000) := hl
 have k0w := z_ (i := 0) (HK.out w HF0.out) rfl
 have k3w := z_ (i := 3) (HK.out w HF0.out) rfl
 clear hG he hb hx hl hT hq hxl hxr hro hrs hxg hy3 hy4 hyt3 hyt4
 go_enter Tryz.func101, Tryz.ntmps101
 go_wp2_with (go_at_call 34; fail)
 refine (ws y3 HB.out HE.out.le (by rw [HY3.out.2]; have := HL.out; omega)).mono ?_
 rintro e w2 ⟨rfl, hd, hf⟩
 rw [HY3.out.1] at hd
 have HD2 : Hid (Bd B b (s ++ nm) w2) := hd
 have HF2 : Hid (FrB B b w w2) := hf
 clear hd hf
 go_wp2
 go_end0
 exact HPo.out w2 HD2.out HF2.out
theorem wr_un {a n : Int} {nm op : By} {l r g : Tr} (ht : l = .nil ∨ IsNd l) (IL : WrC l) : WrC (nd 4 a n nm op l r g) := by
 intro S B b s w v he hb hx hl
 have hT : wrT (nd 4 a n nm op l r g) = op ++ zJ l 7 (wrT l) := by rw [wrT]; simp
 rw [hT] at hl
 rw [hT]
 obtain ⟨q, vl, vr, vg, ys, _, rfl, hq, hxl, hxr, hro, hrs, hxg⟩ := zY hx
 obtain ⟨y3, hy3, hyt3⟩ := zt nm
 obtain ⟨y4, hy4, hyt4⟩ := zt op
 rw [hy3, hy4] at hq
 have HPo : Hid (∀ w', Bd B b (s ++ (op ++ zJ l 7 (wrT l))) w' → FrB B b w w' → zl B b s (op ++ zJ l 7 (wrT l)) w (.returned (.tuple #[])) w') := fun w' h1 h2 => ⟨rfl, h1, h2⟩
 generalize hG : zl B b s (op ++ zJ l 7 (wrT l)) w = G at *
 have HE : Hid (EnvW B w) := he
 have HB : Hid (Bd B b s w) := hb
 have HF0 : Hid (FrB B b w w) := FrB.refl _ _ _
 have HK : Hid (∀ W, FrB B b w W → W.heap[q]? = some (.cells #[.int .i64 4, .int .i64 a, .int .i64 n, .string y3, .string y4, vl, vr, vg] 252)) := fun W h => (h.keeps (fun _ => True) hb) q _ 252 trivial (by decide) hq
 have HXL : Hid (∀ W, FrB B b w W → ExAt S W l vl) := fun W h => (h.keeps S hb).ex hxl
 have HXR : Hid (∀ W, FrB B b w W → ExAt S W r vr) := fun W h => (h.keeps S hb).ex hxr
 have HY3 : Hid (y3.data.toList = nm ∧ y3.size = nm.length) := ⟨hyt3, by rw [← hyt3]; simp⟩
 have HY4 : Hid (y4.data.toList = op ∧ y4.size = op.length) := ⟨hyt4, by rw [← hyt4]; simp⟩
 have HL : Hid (s.length + op.length + (zJ l 7 (wrT l)).length ≤ 100000000000) := by show _ ≤ _; simp at hl; omega
 have HHe : Hid (∀ (s : By) (W : World), FrB B b w W → Bd B b s W → s.length + (zJ l 7 (wrT l)).length ≤ 100000000000 → Calls Tryz.prog 151 #[.pointer (some ⟨b, 0, none⟩), vl, .int .i64 7] W (zl B b s (zJ l 7 (wrT l)) W)) := fun s W h1 h2 h3 => held_w IL ht 7 (by omega) S B b s W vl (he.go h1) h2 ((h1.keeps S hb).ex hxl) h3
 have k0w := z_ (i := 0) (HK.out w HF0.out) rfl
 have k4w := z_ (i := 4) (HK.out w HF0.out) rfl
 clear hG he hb hx hl hT hq hxl hxr hro hrs hxg hy3 hy4 hyt3 hyt4
 go_enter Tryz.func101, Tryz.ntmps101
 go_wp2_with (go_at_call 34; fail)
 refine (ws y4 HB.out HE.out.le (by rw [HY4.out.2]; have := HL.out; omega)).mono ?_
 rintro e w2 ⟨rfl, hd, hf⟩
 rw [HY4.out.1] at hd
 have HD2 : Hid (Bd B b (s ++ op) w2) := hd
 have HF2 : Hid (FrB B b w w2) := hf
 clear hd hf
 have k5w2 := z_ (i := 5) (HK.out w2 HF2.out) rfl
 go_wp2_with (go_at_call 151; fail)
 refine (HHe.out _ w2 HF2.out HD2.out (by have := HL.out; simp; omega)).mono ?_
 rintro e w3 ⟨rfl, hd, hf⟩
 have HD3 : Hid (Bd B b (s ++ (op ++ zJ l 7 (wrT l))) w3) := (by simpa using hd : Bd B b _ w3)
 have HF3 : Hid (FrB B b w w3) := HF2.out.trans hf
 clear hd hf
 go_wp2
 go_end0
 exact HPo.out w3 HD3.out HF3.out
theorem wr_call {a n : Int} {nm op : By} {l r g : Tr} {xs : List Tr} (hg : g = chain xs) (IX : ∀ x ∈ xs, WrC x) (hlen : xs.length ≤ 1000000) : WrC (nd 5 a n nm op l r g) := by
 intro S B b s w v he hb hx hl
 have hT : wrT (nd 5 a n nm op l r g) = (nm ++ [40]) ++ wrT g ++ [41] := by rw [wrT]; simp
 rw [hT] at hl
 rw [hT]
 obtain ⟨q, vl, vr, vg, ys, _, rfl, hq, hxl, hxr, hro, hrs, hxg⟩ := zY hx
 obtain ⟨y3, hy3, hyt3⟩ := zt nm
 obtain ⟨y4, hy4, hyt4⟩ := zt op
 rw [hy3, hy4] at hq
 have HPo : Hid (∀ w', Bd B b (s ++ ((nm ++ [40]) ++ wrT g ++ [41])) w' → FrB B b w w' → zl B b s ((nm ++ [40]) ++ wrT g ++ [41]) w (.returned (.tuple #[])) w') := fun w' h1 h2 => ⟨rfl, h1, h2⟩
 generalize hG : zl B b s ((nm ++ [40]) ++ wrT g ++ [41]) w = G at *
 have HE : Hid (EnvW B w) := he
 have HB : Hid (Bd B b s w) := hb
 have HF0 : Hid (FrB B b w w) := FrB.refl _ _ _
 have HK : Hid (∀ W, FrB B b w W → W.heap[q]? = some (.cells #[.int .i64 5, .int .i64 a, .int .i64 n, .string y3, .string y4, vl, vr, vg] 252)) := fun W h => (h.keeps (fun _ => True) hb) q _ 252 trivial (by decide) hq
 have HXL : Hid (∀ W, FrB B b w W → ExAt S W l vl) := fun W h => (h.keeps S hb).ex hxl
 have HXR : Hid (∀ W, FrB B b w W → ExAt S W r vr) := fun W h => (h.keeps S hb).ex hxr
 have HY3 : Hid (y3.data.toList = nm ∧ y3.size = nm.length) := ⟨hyt3, by rw [← hyt3]; simp⟩
 have HY4 : Hid (y4.data.toList = op ∧ y4.size = op.length) := ⟨hyt4, by rw [← hyt4]; simp⟩
 obtain ⟨xs', hgx, hxl2, hxe⟩ := chain_open ys g hxg
 have hxs : xs' = xs := chain_inj (hgx.symm.trans hg)
 subst hxs
 have hj : wrT g = zB xs' := by rw [hgx, join_chain]
 obtain ⟨qv, cv, rfl⟩ := ze hro
 obtain ⟨nv, hnv⟩ : ∃ nv, nv = ys.length := ⟨_, rfl⟩
 have hdr : Below w.heap.size w w.drew := (Below.refl _ _).drew
 have hfd : FrB B b w w.drew := FrB.of hdr he.le
 have HC : Hid (Calls Tryz.prog 153 #[.pointer (some ⟨b, 0, none⟩), .string y3, .slice qv nv cv] w.drew (zl B b s ((y3.data.toList ++ [40]) ++ zB xs' ++ [41]) w.drew)) := by
  refine call_w IX S B b s w.drew y3 qv nv cv ys (he.go hfd) (hb.below hdr) (by rw [hnv]; exact hro) (by rw [hnv, hxl2]) hnv.symm (fun i x y h1 h2 => (hfd.keeps S hb).ex (hxe i x y h1 h2)) ?_ (by rw [hnv, ← hxl2]; exact hlen)
  rw [HY3.out.2, ← hj]
  simp at hl
  omega
 rw [HY3.out.1, ← hj] at HC
 have HFd : Hid (FrB B b w w.drew) := hfd
 rw [← hnv] at HK
 have k0w := z_ (i := 0) (HK.out w HF0.out) rfl
 have k3w := z_ (i := 3) (HK.out w HF0.out) rfl
 have k7w := z_ (i := 7) (HK.out w HF0.out) rfl
 clear hgx hxl2 hxe hj hnv hg hlen IX hdr hfd
 clear hG he hb hx hl hT hq hxl hxr hro hrs hxg hy3 hy4 hyt3 hyt4
 go_enter Tryz.func101, Tryz.ntmps101
 go_wp2_with (go_at_call 153; fail)
 go_region_with (go_at_call 153; refine HC.out.mono ?_; rintro e w2 ⟨rfl, hd, hf⟩; have HD2 : Hid (Bd B b (s ++ ((nm ++ [40]) ++ wrT g ++ [41])) w2) := hd; have HF2 : Hid (FrB B b w w2) := HFd.out.trans hf; clear hd hf)
 all_goals
  go_wp2
  go_end0
  exact HPo.out w2 HD2.out HF2.out
theorem wr_new {a n : Int} {nm op : By} {l r g : Tr} (ht : l = .nil ∨ IsNd l) (IL : WrC l) : WrC (nd 6 a n nm op l r g) := by
 intro S B b s w v he hb hx hl
 have hT : wrT (nd 6 a n nm op l r g) = ([110, 101, 119] ++ [40]) ++ wrT l ++ [41] := by rw [wrT]; simp
 rw [hT] at hl
 rw [hT]
 obtain ⟨q, vl, vr, vg, ys, _, rfl, hq, hxl, hxr, hro, hrs, hxg⟩ := zY hx
 obtain ⟨y3, hy3, hyt3⟩ := zt nm
 obtain ⟨y4, hy4, hyt4⟩ := zt op
 rw [hy3, hy4] at hq
 have HPo : Hid (∀ w', Bd B b (s ++ (([110, 101, 119] ++ [40]) ++ wrT l ++ [41])) w' → FrB B b w w' → zl B b s (([110, 101, 119] ++ [40]) ++ wrT l ++ [41]) w (.returned (.tuple #[])) w') := fun w' h1 h2 => ⟨rfl, h1, h2⟩
 generalize hG : zl B b s (([110, 101, 119] ++ [40]) ++ wrT l ++ [41]) w = G at *
 have HE : Hid (EnvW B w) := he
 have HB : Hid (Bd B b s w) := hb
 have HF0 : Hid (FrB B b w w) := FrB.refl _ _ _
 have HK : Hid (∀ W, FrB B b w W → W.heap[q]? = some (.cells #[.int .i64 6, .int .i64 a, .int .i64 n, .string y3, .string y4, vl, vr, vg] 252)) := fun W h => (h.keeps (fun _ => True) hb) q _ 252 trivial (by decide) hq
 have HXL : Hid (∀ W, FrB B b w W → ExAt S W l vl) := fun W h => (h.keeps S hb).ex hxl
 have HXR : Hid (∀ W, FrB B b w W → ExAt S W r vr) := fun W h => (h.keeps S hb).ex hxr
 have HY3 : Hid (y3.data.toList = nm ∧ y3.size = nm.length) := ⟨hyt3, by rw [← hyt3]; simp⟩
 have HY4 : Hid (y4.data.toList = op ∧ y4.size = op.length) := ⟨hyt4, by rw [← hyt4]; simp⟩
 obtain ⟨pv, rfl⟩ : ∃ pv, vl = .pointer pv := by
  rcases ht with rfl | ht
  ·rw [ExAt] at hxl; exact ⟨_, hxl⟩
  ·obtain ⟨bb, e⟩ := IsNd.ptr ht hxl; exact ⟨_, e⟩
 have HC : Hid (∀ (W : World) (q2 : Nat), FrB B b w W → Bd B b s W → W.heap[q2]? = some (.cells #[.pointer pv] 145) → Calls Tryz.prog 153 #[.pointer (some ⟨b, 0, none⟩), .string ⟨#[110, 101, 119]⟩, .slice (some ⟨q2, 0, none⟩) 1 1] W (zl B b s (([110, 101, 119] ++ [40]) ++ wrT l ++ [41]) W)) := fun W q2 h1 h2 h3 => by
  refine call_w (xs := [l]) (fun x hx => by simp at hx; rw [hx]; exact IL) S B b s W ⟨#[110, 101, 119]⟩ (some ⟨q2, 0, none⟩) 1 1 [.pointer pv] (he.go h1) h2 ⟨rfl, .inr ⟨q2, 1, #[.pointer pv], rfl, Nat.zero_le _, h3, Nat.le_refl _, by unfold maxLen; omega, rfl, rfl⟩⟩ rfl rfl (fun i x y hx hy => ?_) ?_ (by omega)
  ·cases i with
   | zero =>
    simp at hx hy
    subst hx; subst hy
    exact (h1.keeps S hb).ex hxl
   | succ i => simp at hx
  ·show s.length + 3 + (wrT l).length + 2 ≤ _
   simp at hl
   omega
 have k0w := z_ (i := 0) (HK.out w HF0.out) rfl
 have k5w := z_ (i := 5) (HK.out w HF0.out) rfl
 clear hG he hb hx hl hT hq hxl hxr hro hrs hxg hy3 hy4 hyt3 hyt4
 go_enter Tryz.func101, Tryz.ntmps101
 go_wp2_with (go_at_call 153; fail)
 obtain ⟨W1, hW1⟩ : ∃ W1, W1 = w.alloc (.cells #[.pointer pv] 145) := ⟨_, rfl⟩
 have hb1 : Below w.heap.size w W1 := by rw [hW1]; exact (Below.refl _ _).alloc (Nat.le_refl _) _
 have HF1 : Hid (FrB B b w W1) := FrB.of hb1 HE.out.le
 have HD1 : Hid (Bd B b s W1) := HB.out.below hb1
 have HQ1 : Hid (W1.heap[w.heap.size]? = some (.cells #[.pointer pv] 145)) := by show _ = _; rw [hW1]; exact heap_alloc_last w _
 rw [← hW1]
 clear hW1 hb1
 refine (HC.out W1 w.heap.size HF1.out HD1.out HQ1.out).mono ?_
 rintro e w2 ⟨rfl, hd, hf⟩
 have HD2 : Hid (Bd B b (s ++ (([110, 101, 119] ++ [40]) ++ wrT l ++ [41])) w2) := hd
 have HF2 : Hid (FrB B b w w2) := HF1.out.trans hf
 clear hd hf
 go_wp2
 go_end0
 exact HPo.out w2 HD2.out HF2.out
theorem wr_len {a n : Int} {nm op : By} {l r g : Tr} (ht : l = .nil ∨ IsNd l) (IL : WrC l) : WrC (nd 7 a n nm op l r g) := by
 intro S B b s w v he hb hx hl
 have hT : wrT (nd 7 a n nm op l r g) = ([108, 101, 110] ++ [40]) ++ wrT l ++ [41] := by rw [wrT]; simp
 rw [hT] at hl
 rw [hT]
 obtain ⟨q, vl, vr, vg, ys, _, rfl, hq, hxl, hxr, hro, hrs, hxg⟩ := zY hx
 obtain ⟨y3, hy3, hyt3⟩ := zt nm
 obtain ⟨y4, hy4, hyt4⟩ := zt op
 rw [hy3, hy4] at hq
 have HPo : Hid (∀ w', Bd B b (s ++ (([108, 101, 110] ++ [40]) ++ wrT l ++ [41])) w' → FrB B b w w' → zl B b s (([108, 101, 110] ++ [40]) ++ wrT l ++ [41]) w (.returned (.tuple #[])) w') := fun w' h1 h2 => ⟨rfl, h1, h2⟩
 generalize hG : zl B b s (([108, 101, 110] ++ [40]) ++ wrT l ++ [41]) w = G at *
 have HE : Hid (EnvW B w) := he
 have HB : Hid (Bd B b s w) := hb
 have HF0 : Hid (FrB B b w w) := FrB.refl _ _ _
 have HK : Hid (∀ W, FrB B b w W → W.heap[q]? = some (.cells #[.int .i64 7, .int .i64 a, .int .i64 n, .string y3, .string y4, vl, vr, vg] 252)) := fun W h => (h.keeps (fun _ => True) hb) q _ 252 trivial (by decide) hq
 have HXL : Hid (∀ W, FrB B b w W → ExAt S W l vl) := fun W h => (h.keeps S hb).ex hxl
 have HXR : Hid (∀ W, FrB B b w W → ExAt S W r vr) := fun W h => (h.keeps S hb).ex hxr
 have HY3 : Hid (y3.data.toList = nm ∧ y3.size = nm.length) := ⟨hyt3, by rw [← hyt3]; simp⟩
 have HY4 : Hid (y4.data.toList = op ∧ y4.size = op.length) := ⟨hyt4, by rw [← hyt4]; simp⟩
 obtain ⟨pv, rfl⟩ : ∃ pv, vl = .pointer pv := by
  rcases ht with rfl | ht
  ·rw [ExAt] at hxl; exact ⟨_, hxl⟩
  ·obtain ⟨bb, e⟩ := IsNd.ptr ht hxl; exact ⟨_, e⟩
 have HC : Hid (∀ (W : World) (q2 : Nat), FrB B b w W → Bd B b s W → W.heap[q2]? = some (.cells #[.pointer pv] 145) → Calls Tryz.prog 153 #[.pointer (some ⟨b, 0, none⟩), .string ⟨#[108, 101, 110]⟩, .slice (some ⟨q2, 0, none⟩) 1 1] W (zl B b s (([108, 101, 110] ++ [40]) ++ wrT l ++ [41]) W)) := fun W q2 h1 h2 h3 => by
  refine call_w (xs := [l]) (fun x hx => by simp at hx; rw [hx]; exact IL) S B b s W ⟨#[108, 101, 110]⟩ (some ⟨q2, 0, none⟩) 1 1 [.pointer pv] (he.go h1) h2 ⟨rfl, .inr ⟨q2, 1, #[.pointer pv], rfl, Nat.zero_le _, h3, Nat.le_refl _, by unfold maxLen; omega, rfl, rfl⟩⟩ rfl rfl (fun i x y hx hy => ?_) ?_ (by omega)
  ·cases i with
   | zero =>
    simp at hx hy
    subst hx; subst hy
    exact (h1.keeps S hb).ex hxl
   | succ i => simp at hx
  ·show s.length + 3 + (wrT l).length + 2 ≤ _
   simp at hl
   omega
 have k0w := z_ (i := 0) (HK.out w HF0.out) rfl
 have k5w := z_ (i := 5) (HK.out w HF0.out) rfl
 clear hG he hb hx hl hT hq hxl hxr hro hrs hxg hy3 hy4 hyt3 hyt4
 go_enter Tryz.func101, Tryz.ntmps101
 go_wp2_with (go_at_call 153; fail)
 obtain ⟨W1, hW1⟩ : ∃ W1, W1 = w.alloc (.cells #[.pointer pv] 145) := ⟨_, rfl⟩
 have hb1 : Below w.heap.size w W1 := by rw [hW1]; exact (Below.refl _ _).alloc (Nat.le_refl _) _
 have HF1 : Hid (FrB B b w W1) := FrB.of hb1 HE.out.le
 have HD1 : Hid (Bd B b s W1) := HB.out.below hb1
 have HQ1 : Hid (W1.heap[w.heap.size]? = some (.cells #[.pointer pv] 145)) := by show _ = _; rw [hW1]; exact heap_alloc_last w _
 rw [← hW1]
 clear hW1 hb1
 refine (HC.out W1 w.heap.size HF1.out HD1.out HQ1.out).mono ?_
 rintro e w2 ⟨rfl, hd, hf⟩
 have HD2 : Hid (Bd B b (s ++ (([108, 101, 110] ++ [40]) ++ wrT l ++ [41])) w2) := hd
 have HF2 : Hid (FrB B b w w2) := HF1.out.trans hf
 clear hd hf
 go_wp2
 go_end0
 exact HPo.out w2 HD2.out HF2.out
theorem wr_input {a n : Int} {nm op : By} {l r g : Tr}  : WrC (nd 9 a n nm op l r g) := by
 intro S B b s w v he hb hx hl
 have hT : wrT (nd 9 a n nm op l r g) = ([105, 110, 112, 117, 116] ++ [40]) ++ [41] := by rw [wrT]; simp
 rw [hT] at hl
 rw [hT]
 obtain ⟨q, vl, vr, vg, ys, _, rfl, hq, hxl, hxr, hro, hrs, hxg⟩ := zY hx
 obtain ⟨y3, hy3, hyt3⟩ := zt nm
 obtain ⟨y4, hy4, hyt4⟩ := zt op
 rw [hy3, hy4] at hq
 have HPo : Hid (∀ w', Bd B b (s ++ (([105, 110, 112, 117, 116] ++ [40]) ++ [41])) w' → FrB B b w w' → zl B b s (([105, 110, 112, 117, 116] ++ [40]) ++ [41]) w (.returned (.tuple #[])) w') := fun w' h1 h2 => ⟨rfl, h1, h2⟩
 generalize hG : zl B b s (([105, 110, 112, 117, 116] ++ [40]) ++ [41]) w = G at *
 have HE : Hid (EnvW B w) := he
 have HB : Hid (Bd B b s w) := hb
 have HF0 : Hid (FrB B b w w) := FrB.refl _ _ _
 have HK : Hid (∀ W, FrB B b w W → W.heap[q]? = some (.cells #[.int .i64 9, .int .i64 a, .int .i64 n, .string y3, .string y4, vl, vr, vg] 252)) := fun W h => (h.keeps (fun _ => True) hb) q _ 252 trivial (by decide) hq
 have HXL : Hid (∀ W, FrB B b w W → ExAt S W l vl) := fun W h => (h.keeps S hb).ex hxl
 have HXR : Hid (∀ W, FrB B b w W → ExAt S W r vr) := fun W h => (h.keeps S hb).ex hxr
 have HY3 : Hid (y3.data.toList = nm ∧ y3.size = nm.length) := ⟨hyt3, by rw [← hyt3]; simp⟩
 have HY4 : Hid (y4.data.toList = op ∧ y4.size = op.length) := ⟨hyt4, by rw [← hyt4]; simp⟩
 have HC : Hid (Calls Tryz.prog 153 #[.pointer (some ⟨b, 0, none⟩), .string ⟨#[105, 110, 112, 117, 116]⟩, .slice none 0 0] w (zl B b s (([105, 110, 112, 117, 116] ++ [40]) ++ zB [] ++ [41]) w)) := by
  refine call_w (xs := []) (fun x hx => by simp at hx) S B b s w ⟨#[105, 110, 112, 117, 116]⟩ none 0 0 [] he hb (World.ownsRow_nil _ _ _ _) rfl rfl (fun i x y hx => by simp at hx) ?_ (by omega)
  show s.length + 5 + 0 + 2 ≤ _
  simp at hl
  omega
 have k0w := z_ (i := 0) (HK.out w HF0.out) rfl
 clear hG he hb hx hl hT hq hxl hxr hro hrs hxg hy3 hy4 hyt3 hyt4
 go_enter Tryz.func101, Tryz.ntmps101
 go_wp2_with (go_at_call 153; fail)
 refine HC.out.mono ?_
 rintro e w2 ⟨rfl, hd, hf⟩
 have HD2 : Hid (Bd B b (s ++ (([105, 110, 112, 117, 116] ++ [40]) ++ [41])) w2) := (by simpa [zB] using hd : Bd B b _ w2)
 have HF2 : Hid (FrB B b w w2) := hf
 clear hd hf
 go_wp2
 go_end0
 exact HPo.out w2 HD2.out HF2.out
theorem wr_item {a n : Int} {nm op : By} {l r g : Tr} (ht : l = .nil ∨ IsNd l) (IL : WrC l) (IR : WrC r) : WrC (nd 8 a n nm op l r g) := by
 intro S B b s w v he hb hx hl
 have hT : wrT (nd 8 a n nm op l r g) = zJ l 8 (wrT l) ++ ([91] ++ wrT r ++ [93]) := by rw [wrT]; simp
 rw [hT] at hl
 rw [hT]
 obtain ⟨q, vl, vr, vg, ys, _, rfl, hq, hxl, hxr, hro, hrs, hxg⟩ := zY hx
 obtain ⟨y3, hy3, hyt3⟩ := zt nm
 obtain ⟨y4, hy4, hyt4⟩ := zt op
 rw [hy3, hy4] at hq
 have HPo : Hid (∀ w', Bd B b (s ++ (zJ l 8 (wrT l) ++ ([91] ++ wrT r ++ [93]))) w' → FrB B b w w' → zl B b s (zJ l 8 (wrT l) ++ ([91] ++ wrT r ++ [93])) w (.returned (.tuple #[])) w') := fun w' h1 h2 => ⟨rfl, h1, h2⟩
 generalize hG : zl B b s (zJ l 8 (wrT l) ++ ([91] ++ wrT r ++ [93])) w = G at *
 have HE : Hid (EnvW B w) := he
 have HB : Hid (Bd B b s w) := hb
 have HF0 : Hid (FrB B b w w) := FrB.refl _ _ _
 have HK : Hid (∀ W, FrB B b w W → W.heap[q]? = some (.cells #[.int .i64 8, .int .i64 a, .int .i64 n, .string y3, .string y4, vl, vr, vg] 252)) := fun W h => (h.keeps (fun _ => True) hb) q _ 252 trivial (by decide) hq
 have HXL : Hid (∀ W, FrB B b w W → ExAt S W l vl) := fun W h => (h.keeps S hb).ex hxl
 have HXR : Hid (∀ W, FrB B b w W → ExAt S W r vr) := fun W h => (h.keeps S hb).ex hxr
 have HY3 : Hid (y3.data.toList = nm ∧ y3.size = nm.length) := ⟨hyt3, by rw [← hyt3]; simp⟩
 have HY4 : Hid (y4.data.toList = op ∧ y4.size = op.length) := ⟨hyt4, by rw [← hyt4]; simp⟩
 have HL : Hid (s.length + (zJ l 8 (wrT l)).length + (wrT r).length + 2 ≤ 100000000000) := by show _ ≤ _; simp at hl; omega
 have HH : Hid (Calls Tryz.prog 151 #[.pointer (some ⟨b, 0, none⟩), vl, .int .i64 8] w (zl B b s (zJ l 8 (wrT l)) w)) := held_w IL ht 8 (by omega) S B b s w vl he hb hxl (by simp at hl; omega)
 have HI : Hid (∀ (s : By) (W : World), FrB B b w W → Bd B b s W → s.length + (wrT r).length + 2 ≤ 100000000000 → Calls Tryz.prog 100 #[.pointer (some ⟨b, 0, none⟩), vr] W (zl B b s ([91] ++ wrT r ++ [93]) W)) := fun s W h1 h2 h3 => item_at IR S B b s W vr (he.go h1) h2 ((h1.keeps S hb).ex hxr) h3
 have k0w := z_ (i := 0) (HK.out w HF0.out) rfl
 have k5w := z_ (i := 5) (HK.out w HF0.out) rfl
 clear hG he hb hx hl hT hq hxl hxr hro hrs hxg hy3 hy4 hyt3 hyt4
 go_enter Tryz.func101, Tryz.ntmps101
 go_wp2_with (go_at_call 151; fail)
 refine HH.out.mono ?_
 rintro e w2 ⟨rfl, hd, hf⟩
 have HD2 : Hid (Bd B b (s ++ zJ l 8 (wrT l)) w2) := hd
 have HF2 : Hid (FrB B b w w2) := hf
 clear hd hf
 have k6w2 := z_ (i := 6) (HK.out w2 HF2.out) rfl
 go_wp2_with (go_at_call 100; fail)
 refine (HI.out _ w2 HF2.out HD2.out (by have := HL.out; simp; omega)).mono ?_
 rintro e w3 ⟨rfl, hd, hf⟩
 have HD3 : Hid (Bd B b (s ++ (zJ l 8 (wrT l) ++ ([91] ++ wrT r ++ [93]))) w3) := (by simpa using hd : Bd B b _ w3)
 have HF3 : Hid (FrB B b w w3) := HF2.out.trans hf
 clear hd hf
 go_wp2
 go_end0
 exact HPo.out w3 HD3.out HF3.out
theorem wr_bin {a n : Int} {nm op : By} {l r g : Tr} (htl : l = .nil ∨ IsNd l) (IL : WrC l) (htr : r = .nil ∨ IsNd r) (IR : WrC r) : WrC (nd 3 a n nm op l r g) := by
 intro S B b s w v he hb hx hl
 have hT : wrT (nd 3 a n nm op l r g) = zJ l (zi op) (wrT l) ++ ([32] ++ op ++ [32]) ++ zJ r (zi op + 1) (wrT r) := by rw [wrT]; simp
 rw [hT] at hl
 rw [hT]
 obtain ⟨q, vl, vr, vg, ys, _, rfl, hq, hxl, hxr, hro, hrs, hxg⟩ := zY hx
 obtain ⟨y3, hy3, hyt3⟩ := zt nm
 obtain ⟨y4, hy4, hyt4⟩ := zt op
 rw [hy3, hy4] at hq
 have HPo : Hid (∀ w', Bd B b (s ++ (zJ l (zi op) (wrT l) ++ ([32] ++ op ++ [32]) ++ zJ r (zi op + 1) (wrT r))) w' → FrB B b w w' → zl B b s (zJ l (zi op) (wrT l) ++ ([32] ++ op ++ [32]) ++ zJ r (zi op + 1) (wrT r)) w (.returned (.tuple #[])) w') := fun w' h1 h2 => ⟨rfl, h1, h2⟩
 generalize hG : zl B b s (zJ l (zi op) (wrT l) ++ ([32] ++ op ++ [32]) ++ zJ r (zi op + 1) (wrT r)) w = G at *
 have HE : Hid (EnvW B w) := he
 have HB : Hid (Bd B b s w) := hb
 have HF0 : Hid (FrB B b w w) := FrB.refl _ _ _
 have HK : Hid (∀ W, FrB B b w W → W.heap[q]? = some (.cells #[.int .i64 3, .int .i64 a, .int .i64 n, .string y3, .string y4, vl, vr, vg] 252)) := fun W h => (h.keeps (fun _ => True) hb) q _ 252 trivial (by decide) hq
 have HXL : Hid (∀ W, FrB B b w W → ExAt S W l vl) := fun W h => (h.keeps S hb).ex hxl
 have HXR : Hid (∀ W, FrB B b w W → ExAt S W r vr) := fun W h => (h.keeps S hb).ex hxr
 have HY3 : Hid (y3.data.toList = nm ∧ y3.size = nm.length) := ⟨hyt3, by rw [← hyt3]; simp⟩
 have HY4 : Hid (y4.data.toList = op ∧ y4.size = op.length) := ⟨hyt4, by rw [← hyt4]; simp⟩
 have HL : Hid (s.length + (zJ l (zi op) (wrT l)).length + op.length + 2 + (zJ r (zi op + 1) (wrT r)).length ≤ 100000000000) := by show _ ≤ _; simp at hl; omega
 have HNr : Hid (∀ W, FrB B b w W → Calls Tryz.prog 152 #[.string y4] W fun e w' => e = .returned (.int .i64 (zi op : Nat)) ∧ Below W.heap.size W w') := fun W h => by
  have := near_any y4 W (he.go h).env
  rw [hyt4] at this
  exact this
 have hn6 := near_le op
 have HHl : Hid (∀ (W : World), FrB B b w W → Bd B b s W → Calls Tryz.prog 151 #[.pointer (some ⟨b, 0, none⟩), vl, .int .i64 (zi op : Nat)] W (zl B b s (zJ l (zi op) (wrT l)) W)) := fun W h1 h2 => held_w IL htl (zi op) (by omega) S B b s W vl (he.go h1) h2 ((h1.keeps S hb).ex hxl) (by have := HL.out; omega)
 have HHr : Hid (∀ (s : By) (W : World), FrB B b w W → Bd B b s W → s.length + (zJ r (zi op + 1) (wrT r)).length ≤ 100000000000 → Calls Tryz.prog 151 #[.pointer (some ⟨b, 0, none⟩), vr, .int .i64 ((zi op : Nat) + 1)] W (zl B b s (zJ r (zi op + 1) (wrT r)) W)) := fun s W h1 h2 h3 => by
  have := held_w IR htr (zi op + 1) (by omega) S B b s W vr (he.go h1) h2 ((h1.keeps S hb).ex hxr) h3
  rw [show ((zi op + 1 : Nat) : Int) = (zi op : Nat) + 1 by omega] at this
  exact this
 have HHr2 : Hid (∀ (s : By) (W : World), FrB B b w W → Bd B b s W → s.length + (zJ r (zi op + 1) (wrT r)).length ≤ 100000000000 → Calls Tryz.prog 151 #[.pointer (some ⟨b, 0, none⟩), vr, .int .i64 (IntKind.i64.wrap ((zi op : Nat) + 1))] W (zl B b s (zJ r (zi op + 1) (wrT r)) W)) := fun s W h1 h2 h3 => by
  rw [i64_same (by omega) (by omega)]
  exact HHr.out s W h1 h2 h3
 have hop : y4.size ≤ 100000000000 := by rw [HY4.out.2]; have := HL.out; omega
 have HOP : Hid (y4.size ≤ 100000000000) := hop
 have hFd : FrB B b w w.drew := FrB.of (Below.refl _ _).drew he.le
 have HFd : Hid (FrB B b w w.drew) := hFd
 have k0w := z_ (i := 0) (HK.out w HF0.out) rfl
 have k4w := z_ (i := 4) (HK.out w HF0.out) rfl
 have k5w := z_ (i := 5) (HK.out w HF0.out) rfl
 have k4d := z_ (i := 4) (HK.out w.drew hFd) rfl
 have k5d := z_ (i := 5) (HK.out w.drew hFd) rfl
 obtain ⟨nv, hnv⟩ : ∃ nv, nv = zi op := ⟨_, rfl⟩
 rw [← hnv] at HHl HNr HHr HHr2 HL HPo hn6
 clear hG he hb hx hl hT hq hxl hxr hro hrs hxg hy3 hy4 hyt3 hyt4
 clear hnv hFd IL IR htl htr
 go_enter Tryz.func101, Tryz.ntmps101
 go_upto_region 7 with fail
 go_cut [] (fun wx => Hid (Bd B b (s ++ zJ l nv (wrT l)) wx ∧ FrB B b w wx))
 case first =>
  go_region_with (first
   | (go_at_call 152; refine (HNr.out _ HFd.out).mono ?_; rintro e w1 ⟨rfl, hb1⟩; have HF1 : Hid (FrB B b w w1) := HFd.out.trans (FrB.of hb1 (HE.out.go HFd.out).le); have HD1 : Hid (Bd B b s w1) := (HB.out.below (Below.refl _ _).drew).below hb1; have k5w1 := z_ (i := 5) (HK.out w1 HF1.out) rfl; clear hb1)
   | (go_at_call 151; refine (HHl.out _ HF1.out HD1.out).mono ?_; rintro e w2 ⟨rfl, hd, hf⟩; have HD2 : Hid (Bd B b (s ++ zJ l nv (wrT l)) w2) := hd; have HF2 : Hid (FrB B b w w2) := HF1.out.trans hf; clear hd hf))
  all_goals (go_wp2_with fail; go_meet; exact ⟨HD2.out, HF2.out⟩)
 case rest =>
  obtain ⟨w2, hw2⟩ : ∃ w2, w2 = wc := ⟨_, rfl⟩
  rw [← hw2] at hcut ⊢
  have HD2 : Hid (Bd B b (s ++ zJ l nv (wrT l)) w2) := hcut.out.1
  have HF2 : Hid (FrB B b w w2) := hcut.out.2
  clear hcut hw2 k4w k5w k4d k5d
  have k4w2 := z_ (i := 4) (HK.out w2 HF2.out) rfl
  go_wp2_with (go_at_call 34; fail)
  generalize hx1 : (⟨#[32]⟩ : ByteArray) ++ y4 ++ (⟨#[32]⟩ : ByteArray) = x1
  have ht1 : x1.data.toList = [32] ++ op ++ [32] := by rw [← hx1, qu, qu, HY4.out.1]
  have hz1 : x1.size = op.length + 2 := by rw [← hx1, je, je, HY4.out.2]; show 1 + op.length + 1 = _; omega
  refine (ws x1 HD2.out (HE.out.go HF2.out).le (by rw [hz1]; have := HL.out; simp; omega)).mono ?_
  rintro e w3 ⟨rfl, hd, hf⟩
  rw [ht1] at hd
  have HD3 : Hid (Bd B b (s ++ zJ l nv (wrT l) ++ ([32] ++ op ++ [32])) w3) := hd
  have HF3 : Hid (FrB B b w w3) := HF2.out.trans hf
  have hF3d : FrB B b w w3.drew := HF3.out.trans (FrB.of (Below.refl _ _).drew (HE.out.go HF3.out).le)
  have HF3d : Hid (FrB B b w w3.drew) := hF3d
  clear k4w2
  have k4w3 := z_ (i := 4) (HK.out w3 HF3.out) rfl
  have k6w3 := z_ (i := 6) (HK.out w3 HF3.out) rfl
  have k4w3d := z_ (i := 4) (HK.out w3.drew hF3d) rfl
  have k6w3d := z_ (i := 6) (HK.out w3.drew hF3d) rfl
  clear hd hf hx1 ht1 hz1 hF3d
  go_wp2_with (go_at_call 152; fail)
  go_region_with (first
   | (go_at_call 152; refine (HNr.out _ HF3d.out).mono ?_; rintro e w4 ⟨rfl, hb4⟩; have HF4 : Hid (FrB B b w w4) := HF3d.out.trans (FrB.of hb4 (HE.out.go HF3d.out).le); have HD4 : Hid (Bd B b (s ++ zJ l nv (wrT l) ++ ([32] ++ op ++ [32])) w4) := (HD3.out.below (Below.refl _ _).drew).below hb4; have k6w4 := z_ (i := 6) (HK.out w4 HF4.out) rfl; clear hb4)
   | (go_at_call 151; refine (HHr2.out _ _ HF4.out HD4.out (by have := HL.out; simp; omega)).mono ?_; rintro e w5 ⟨rfl, hd, hf⟩; have HD5 : Hid (Bd B b (s ++ (zJ l nv (wrT l) ++ ([32] ++ op ++ [32]) ++ zJ r (nv + 1) (wrT r))) w5) := (by simpa using hd : Bd B b _ w5); have HF5 : Hid (FrB B b w w5) := HF4.out.trans hf; clear hd hf))
  all_goals
   go_wp2
   go_end0
   exact HPo.out w5 HD5.out HF5.out
def zy : Tr → Prop
 | .agg [.lit (.int .i64 c), .lit (.int .i64 _), .lit (.int .i64 n), .lit (.string _), .lit (.string _), l, r, g] =>
  1 ≤ c ∧ c ≤ 9 ∧ -9223372036854775808 ≤ n ∧ n ≤ 9223372036854775807 ∧ (l = .nil ∨ IsNd l) ∧ (r = .nil ∨ IsNd r) ∧ zy l ∧ zy r ∧ zy g ∧ ∃ xs, g = chain xs ∧ xs.length ≤ 1000000
 | .slice [x] [g] => IsNd x ∧ zy x ∧ zy g
 | .slice [] [] => True
 | .nil => True
 | _ => False
theorem wr_all (t : Tr) (h : zy t) : (t = .nil ∨ IsNd t → WrC t) ∧ ∀ xs, t = chain xs → ∀ x ∈ xs, WrC x := by
 unfold zy at h
 split at h
 ·rename_i c a n nm op l r g
  obtain ⟨c1, c9, n0, n1, tl, tr, gl, gr, gg, xs, hg, hlen⟩ := h
  have IL := (wr_all l gl).1 tl
  have IR := (wr_all r gr).1 tr
  have IG := (wr_all g gg).2 xs hg
  refine ⟨fun _ => ?_, fun xs e => ?_⟩
  ·rcases (by omega : c = 1 ∨ c = 2 ∨ c = 3 ∨ c = 4 ∨ c = 5 ∨ c = 6 ∨ c = 7 ∨ c = 8 ∨ c = 9) with rfl | rfl | rfl | rfl | rfl | rfl | rfl | rfl | rfl
   ·exact wr_num n0 n1
   ·exact wr_name
   ·exact wr_bin tl IL tr IR
   ·exact wr_un tl IL
   ·exact wr_call hg IG hlen
   ·exact wr_new tl IL
   ·exact wr_len tl IL
   ·exact wr_item tl IL IR
   ·exact wr_input
  ·cases xs <;> simp [chain] at e
 ·obtain ⟨hn, hx, hg⟩ := h
  rename_i x g
  have IX := (wr_all x hx).1 (.inr hn)
  have IG := (wr_all g hg).2
  refine ⟨fun h => ?_, fun xs e => ?_⟩
  ·rcases h with h | ⟨_, _, _, _, _, _, _, _, h⟩ <;> cases h
  ·cases xs with
   | nil => simp [chain] at e
   | cons y xs =>
    simp only [chain] at e
    injection e with e1 e2
    injection e1 with e1 _
    injection e2 with e2 _
    subst e1
    intro z hz
    rcases List.mem_cons.1 hz with rfl | hz
    ·exact IX
    ·exact IG xs e2 z hz
 ·refine ⟨fun h => ?_, fun xs e => ?_⟩
  ·rcases h with h | ⟨_, _, _, _, _, _, _, _, h⟩ <;> cases h
  ·cases xs with
   | nil => intro x hx; simp at hx
   | cons y xs => simp [chain] at e
 ·refine ⟨fun _ => wr_nil, fun xs e => ?_⟩
  cases xs <;> simp [chain] at e
 ·exact h.elim
theorem near_short {m : By} (h : 1 ≤ zi m) : m.length ≤ 2 := by
 rcases near_at pairsL m with ⟨J, h1, h2, _, _⟩ | ⟨_, h2⟩
 ·have h6 : ∀ J, J < 13 → (pairsL.getD J ([], 0)).1.length ≤ 2 := by decide
  rw [← h2]
  exact h6 J h1
 ·have : zi m = 0 := h2
  omega
theorem good_nd {c a n : Int} {nm op : By} {l r g : Tr} {xs : List Tr} (c1 : 1 ≤ c) (c9 : c ≤ 9) (n0 : -9223372036854775808 ≤ n) (n1 : n ≤ 9223372036854775807) (hl : l = .nil ∨ IsNd l) (hr : r = .nil ∨ IsNd r) (gl : zy l) (gr : zy r) (gg : zy g) (hg : g = chain xs) (hx : xs.length ≤ 1000000) : zy (nd c a n nm op l r g) := by
 rw [zy]
 exact ⟨c1, c9, n0, n1, hl, hr, gl, gr, gg, xs, hg, hx⟩
theorem zG : zy .nil := by rw [zy]; trivial
theorem good_ce : zy ce := by rw [zy]; trivial
theorem hold_le (t : Tr) (k : Nat) (s : By) : (zJ t k s).length ≤ s.length + 2 := by
 unfold zJ
 split
 ·omega
 ·split
  ·omega
  ·simp
theorem jd : ce = chain [] := rfl
theorem join_cons (x : Tr) (xs : List Tr) : (zB (x :: xs)).length ≤ (wrT x).length + 2 + (zB xs).length := by
 cases xs with
 | nil => simp [zB]
 | cons y xs => simp [zB]; omega
def ExG (g : Nat) (x : Tr) (l : List Tok) (t : Tr) (l' : List Tok) : Prop :=
 if g = 7 then ∃ xs, t = chain xs ∧ zy t ∧ (zB xs).length + 2 + 30 * l'.length ≤ 30 * l.length ∧ xs.length + l'.length ≤ l.length
 else zy t ∧ (wrT t).length + 2 + 30 * l'.length ≤ 30 * l.length + (if g = 1 ∨ g = 3 then (wrT x).length + 2 else 0)
theorem jj {g : Nat} {x t : Tr} {l l' : List Tok} (h7 : g ≠ 7) (h13 : ¬ (g = 1 ∨ g = 3)) (h : ExG g x l t l') : zy t ∧ (wrT t).length + 2 + 30 * l'.length ≤ 30 * l.length := by
 unfold ExG at h
 rw [if_neg h7, if_neg h13] at h
 exact h
theorem exG_lp {g : Nat} {x t : Tr} {l l' : List Tok} (h13 : g = 1 ∨ g = 3) (h : ExG g x l t l') : zy t ∧ (wrT t).length + 2 + 30 * l'.length ≤ 30 * l.length + ((wrT x).length + 2) := by
 unfold ExG at h
 rw [if_neg (by omega), if_pos h13] at h
 exact h
theorem zS : ∀ (f g lv d : Nat) (x : Tr) (p : Nat) (l : List Tok) (t : Tr) (l' : List Tok), (g ≤ 1 → 1 ≤ lv) → (g = 1 ∨ g = 3 → zy x ∧ IsNd x) → Ends l → l.length ≤ 1000000 → exV f g lv d x p l = .ok (t, l') → ExG g x l t l'
 | 0, _, _, _, _, _, _, _, _, _, _, _, _, h => by simp [exV] at h
 | f + 1, 0, lv, d, x, p, l, t, l', hv, hx, he, h6, h => by
  rw [exV] at h
  unfold ExG
  rw [if_neg (by omega), if_neg (by omega)]
  split at h
  ·exact jj (by omega) (by omega) (zS f 2 0 d .nil 0 l t l' (fun h => by omega) (fun h => by omega) he h6 h)
  ·obtain ⟨y, l1, h1, h2⟩ := za h
   have e1 := zq f 0 (lv + 1) d .nil 0 l y l1 (fun _ => by omega) he h1
   have g1 := jj (by omega) (by omega) (zS f 0 (lv + 1) d .nil 0 l y l1 (fun _ => by omega) (fun h => by omega) he h6 h1)
   have n1 := zw f 0 (lv + 1) d .nil 0 l y l1 (by omega) (by omega) h1
   have g2 := exG_lp (.inl rfl) (zS f 1 lv d y _ l1 t l' (fun _ => hv (by omega)) (fun _ => ⟨g1.1, n1⟩) e1.1 (by have := e1.2.1; omega) h2)
   exact ⟨g2.1, by have := g1.2; have := g2.2; omega⟩
 | f + 1, 1, lv, d, x, p, l, t, l', hv, hx, he, h6, h => by
  rw [exV] at h
  unfold ExG
  rw [if_neg (by omega), if_pos (.inl rfl)]
  obtain ⟨gx, nx⟩ := hx (.inl rfl)
  split at h
  ·rename_i hn
   obtain ⟨y, l1, h1, h2⟩ := za h
   have hlv := hv (by omega)
   have hk : (hd l).t ≠ [] := fun e => by
    rw [e] at hn
    have h0 : zi [] = 0 := by decide
    omega
   obtain ⟨t1, t2, t3, t4⟩ := he.tail hk
   have e1 := zq f 0 (lv + 1) d .nil 0 l.tail y l1 (fun _ => by omega) t1 h1
   have g1 := jj (by omega) (by omega) (zS f 0 (lv + 1) d .nil 0 l.tail y l1 (fun _ => by omega) (fun h => by omega) t1 (by omega) h1)
   have n1 := zw f 0 (lv + 1) d .nil 0 l.tail y l1 (by omega) (by omega) h1
   have gn : zy (nd 3 p 0 [] (hd l).t x y ce) := good_nd (by omega) (by omega) (by omega) (by omega) (.inr nx) (.inr n1) gx g1.1 good_ce jd (by simp)
   have g2 := exG_lp (.inl rfl) (zS f 1 lv d _ _ l1 t l' (fun _ => hlv) (fun _ => ⟨gn, isNd _ _ _ _ _ _ _ _⟩) e1.1 (by have := e1.2.1; omega) h2)
   refine ⟨g2.1, ?_⟩
   have hw : wrT (nd 3 p 0 [] (hd l).t x y ce) = zJ x (zi (hd l).t) (wrT x) ++ ([32] ++ (hd l).t ++ [32]) ++ zJ y (zi (hd l).t + 1) (wrT y) := by rw [wrT]; simp
   have a1 := hold_le x (zi (hd l).t) (wrT x)
   have a2 := hold_le y (zi (hd l).t + 1) (wrT y)
   have a3 := near_short (m := (hd l).t) (by omega)
   have a4 := g1.2
   have a5 := g2.2
   rw [hw] at a5
   simp only [List.length_append, List.length_cons, List.length_nil] at a5
   omega
  ·obtain ⟨rfl, rfl⟩ := zk h
   exact ⟨gx, by omega⟩
 | f + 1, 2, lv, d, x, p, l, t, l', hv, hx, he, h6, h => by
  rw [exV] at h
  unfold ExG
  rw [if_neg (by omega), if_neg (by omega)]
  obtain ⟨_, _, hb, h⟩ := za h
  split at h
  ·rename_i hn
   obtain ⟨y, l1, h1, h2⟩ := za h
   have hk : (hd l).t ≠ [] := by rcases hn with hn | hn <;> rw [hn] <;> simp
   have hk1 : (hd l).t.length = 1 := by rcases hn with hn | hn <;> rw [hn] <;> rfl
   obtain ⟨t1, t2, t3, t4⟩ := he.tail hk
   have g1 := jj (by omega) (by omega) (zS f 2 0 (d + 1) .nil 0 l.tail y l1 (fun h => by omega) (fun h => by omega) t1 (by omega) h1)
   have n1 := zw f 2 0 (d + 1) .nil 0 l.tail y l1 (by omega) (by omega) h1
   obtain ⟨rfl, rfl⟩ := zk h2
   refine ⟨good_nd (by omega) (by omega) (by omega) (by omega) (.inr n1) (.inl rfl) g1.1 zG good_ce jd (by simp), ?_⟩
   have hw : wrT (nd 4 (hd l).p 0 [] (hd l).t y .nil ce) = (hd l).t ++ zJ y 7 (wrT y) := by rw [wrT]; simp
   have a1 := hold_le y 7 (wrT y)
   rw [hw]
   simp only [List.length_append]
   have := g1.2
   omega
  ·obtain ⟨y, l1, h1, h2⟩ := za h
   have e1 := zq f 4 0 d .nil 0 l y l1 (fun h => by omega) he h1
   have g1 := jj (by omega) (by omega) (zS f 4 0 d .nil 0 l y l1 (fun h => by omega) (fun h => by omega) he h6 h1)
   have n1 := zw f 4 0 d .nil 0 l y l1 (by omega) (by omega) h1
   have g2 := exG_lp (.inr rfl) (zS f 3 0 d y _ l1 t l' (fun h => by omega) (fun _ => ⟨g1.1, n1⟩) e1.1 (by have := e1.2.1; omega) h2)
   exact ⟨g2.1, by have := g1.2; have := g2.2; omega⟩
 | f + 1, 3, lv, d, x, p, l, t, l', hv, hx, he, h6, h => by
  rw [exV] at h
  unfold ExG
  rw [if_neg (by omega), if_pos (.inr rfl)]
  obtain ⟨gx, nx⟩ := hx (.inr rfl)
  split at h
  ·rename_i hn
   obtain ⟨y, l1, h1, h2⟩ := za h
   obtain ⟨t1, t2, t3, t4⟩ := he.tail (by rw [hn]; simp)
   have e1 := zq f 6 0 d .nil 0 l.tail y l1 (fun h => by omega) t1 h1
   have g1 := jj (by omega) (by omega) (zS f 6 0 d .nil 0 l.tail y l1 (fun h => by omega) (fun h => by omega) t1 (by omega) h1)
   have n1 := zw f 6 0 d .nil 0 l.tail y l1 (by omega) (by omega) h1
   have gn : zy (nd 8 p 0 [] [] x y ce) := good_nd (by omega) (by omega) (by omega) (by omega) (.inr nx) (.inr n1) gx g1.1 good_ce jd (by simp)
   have g2 := exG_lp (.inr rfl) (zS f 3 0 d _ _ l1 t l' (fun h => by omega) (fun _ => ⟨gn, isNd _ _ _ _ _ _ _ _⟩) e1.1 (by have := e1.2.1; omega) h2)
   refine ⟨g2.1, ?_⟩
   have hw : wrT (nd 8 p 0 [] [] x y ce) = zJ x 8 (wrT x) ++ ([91] ++ wrT y ++ [93]) := by rw [wrT]; simp
   have a1 := hold_le x 8 (wrT x)
   have a4 := g1.2
   have a5 := g2.2
   rw [hw] at a5
   simp only [List.length_append, List.length_cons, List.length_nil] at a5
   omega
  ·obtain ⟨rfl, rfl⟩ := zk h
   exact ⟨gx, by omega⟩
 | f + 1, 4, lv, d, x, p, l, t, l', hv, hx, he, h6, h => by
  rw [exV] at h
  unfold ExG
  rw [if_neg (by omega), if_neg (by omega)]
  split at h
  ·rename_i hk
   obtain ⟨v, l1, h1, h2⟩ := za h
   obtain ⟨hp, rfl⟩ := num_ok h1
   obtain ⟨t1, t2, t3, t4⟩ := he.tail (he.kind (by omega))
   have hb := Lib.parseIntB_bounds hp
   have e63 : ((2 ^ (64 - 1) : Nat) : Int) = 9223372036854775808 := by decide
   rw [e63] at hb
   obtain ⟨rfl, rfl⟩ := zk h2
   refine ⟨good_nd (by omega) (by omega) (by omega) (by omega) (.inl rfl) (.inl rfl) zG zG good_ce jd (by simp), ?_⟩
   have hw : wrT (nd 1 (hd l).p v [] [] .nil .nil ce) = Lib.itoa v := by rw [wrT]; simp
   have := Lib.itoa_length_le v (by omega) (by omega)
   rw [hw]
   omega
  split at h
  ·rename_i hk2 hk
   obtain ⟨nm, l1, h1, h2⟩ := za h
   obtain ⟨_, _, hn12, rfl⟩ := name_ok h1
   obtain ⟨t1, t2, t3, t4⟩ := he.tail (he.kind (by omega))
   split at h2
   ·rename_i h40
    obtain ⟨s1, s2, s3, s4⟩ := t1.tail (by rw [h40]; simp)
    split at h2
    ·rename_i h41
     obtain ⟨r1, r2, r3, r4⟩ := s1.tail (by rw [h41]; simp)
     obtain ⟨rfl, rfl⟩ := zk h2
     refine ⟨good_nd (by omega) (by omega) (by omega) (by omega) (.inl rfl) (.inl rfl) zG zG good_ce jd (by simp), ?_⟩
     have hw : wrT (nd 5 (hd l).p 0 nm [] .nil .nil ce) = (nm ++ [40]) ++ wrT ce ++ [41] := by rw [wrT]; simp
     have hc : wrT ce = [] := by rw [jd, join_chain]; rfl
     rw [hw, hc]
     simp only [List.length_append, List.length_cons, List.length_nil]
     omega
    ·obtain ⟨gg, l2, h3, h4⟩ := za h2
     have q := zS f 7 0 d ce 0 l.tail.tail gg l2 (fun h => by omega) (fun h => by omega) s1 (by omega) h3
     unfold ExG at q
     rw [if_pos rfl] at q
     obtain ⟨xs, hxs, hgg, hlen, hcnt⟩ := q
     obtain ⟨rfl, rfl⟩ := zk h4
     refine ⟨good_nd (by omega) (by omega) (by omega) (by omega) (.inl rfl) (.inl rfl) zG zG hgg hxs (by omega), ?_⟩
     have hw : wrT (nd 5 (hd l).p 0 nm [] .nil .nil gg) = (nm ++ [40]) ++ wrT gg ++ [41] := by rw [wrT]; simp
     have hc : wrT gg = zB xs := by rw [hxs, join_chain]
     rw [hw, hc]
     simp only [List.length_append, List.length_cons, List.length_nil]
     omega
   ·obtain ⟨rfl, rfl⟩ := zk h2
    refine ⟨good_nd (by omega) (by omega) (by omega) (by omega) (.inl rfl) (.inl rfl) zG zG good_ce jd (by simp), ?_⟩
    have hw : wrT (nd 2 (hd l).p 0 nm [] .nil .nil ce) = nm := by rw [wrT]; simp
    rw [hw]
    omega
  split at h
  ·rename_i hn
   obtain ⟨y, l1, h1, h2⟩ := za h
   obtain ⟨t1, t2, t3, t4⟩ := he.tail (by rw [hn]; simp)
   have g1 := jj (by omega) (by omega) (zS f 5 0 d .nil 0 l.tail y l1 (fun h => by omega) (fun h => by omega) t1 (by omega) h1)
   have n1 := zw f 5 0 d .nil 0 l.tail y l1 (by omega) (by omega) h1
   obtain ⟨rfl, rfl⟩ := zk h2
   refine ⟨good_nd (by omega) (by omega) (by omega) (by omega) (.inr n1) (.inl rfl) g1.1 zG good_ce jd (by simp), ?_⟩
   have hw : wrT (nd 6 (hd l).p 0 [] [] y .nil ce) = ([110, 101, 119] ++ [40]) ++ wrT y ++ [41] := by rw [wrT]; simp
   rw [hw]
   simp only [List.length_append, List.length_cons, List.length_nil]
   have := g1.2
   omega
  split at h
  ·rename_i hn
   obtain ⟨y, l1, h1, h2⟩ := za h
   obtain ⟨t1, t2, t3, t4⟩ := he.tail (by rw [hn]; simp)
   have g1 := jj (by omega) (by omega) (zS f 5 0 d .nil 0 l.tail y l1 (fun h => by omega) (fun h => by omega) t1 (by omega) h1)
   have n1 := zw f 5 0 d .nil 0 l.tail y l1 (by omega) (by omega) h1
   obtain ⟨rfl, rfl⟩ := zk h2
   refine ⟨good_nd (by omega) (by omega) (by omega) (by omega) (.inr n1) (.inl rfl) g1.1 zG good_ce jd (by simp), ?_⟩
   have hw : wrT (nd 7 (hd l).p 0 [] [] y .nil ce) = ([108, 101, 110] ++ [40]) ++ wrT y ++ [41] := by rw [wrT]; simp
   rw [hw]
   simp only [List.length_append, List.length_cons, List.length_nil]
   have := g1.2
   omega
  split at h
  ·rename_i hn
   obtain ⟨t1, t2, t3, t4⟩ := he.tail (by rw [hn]; simp)
   obtain ⟨_, l1, h1, h⟩ := za h
   obtain ⟨e1, s1⟩ := zm h1 (by decide) t1
   obtain ⟨_, l2, h2, h⟩ := za h
   obtain ⟨e2, s2⟩ := zm h2 (by decide) e1
   obtain ⟨rfl, rfl⟩ := zk h
   refine ⟨good_nd (by omega) (by omega) (by omega) (by omega) (.inl rfl) (.inl rfl) zG zG good_ce jd (by simp), ?_⟩
   have hw : wrT (nd 9 (hd l).p 0 [] [] .nil .nil ce) = ([105, 110, 112, 117, 116] ++ [40]) ++ [41] := by rw [wrT]; simp
   rw [hw]
   simp only [List.length_append, List.length_cons, List.length_nil]
   omega
  ·exact jj (by omega) (by omega) (zS f 5 0 d .nil 0 l t l' (fun h => by omega) (fun h => by omega) he h6 h)
 | f + 1, 5, lv, d, x, p, l, t, l', hv, hx, he, h6, h => by
  rw [exV] at h
  unfold ExG
  rw [if_neg (by omega), if_neg (by omega)]
  obtain ⟨_, l1, h1, h⟩ := za h
  obtain ⟨e1, s1⟩ := zm h1 (by decide) he
  obtain ⟨y, l2, h2, h⟩ := za h
  have e2 := zq f 0 1 (d + 1) .nil 0 l1 y l2 (fun _ => by omega) e1 h2
  have g1 := jj (by omega) (by omega) (zS f 0 1 (d + 1) .nil 0 l1 y l2 (fun h => by omega) (fun h => by omega) e1 (by omega) h2)
  obtain ⟨_, l3, h3, h⟩ := za h
  obtain ⟨e3, s3⟩ := zm h3 (by decide) e2.1
  obtain ⟨rfl, rfl⟩ := zk h
  exact ⟨g1.1, by have := g1.2; omega⟩
 | f + 1, 6, lv, d, x, p, l, t, l', hv, hx, he, h6, h => by
  rw [exV] at h
  unfold ExG
  rw [if_neg (by omega), if_neg (by omega)]
  obtain ⟨y, l2, h2, h⟩ := za h
  have e2 := zq f 0 1 (d + 1) .nil 0 l y l2 (fun _ => by omega) he h2
  have g1 := jj (by omega) (by omega) (zS f 0 1 (d + 1) .nil 0 l y l2 (fun h => by omega) (fun h => by omega) he h6 h2)
  obtain ⟨_, l3, h3, h⟩ := za h
  obtain ⟨e3, s3⟩ := zm h3 (by decide) e2.1
  obtain ⟨rfl, rfl⟩ := zk h
  exact ⟨g1.1, by have := g1.2; omega⟩
 | f + 1, 7, lv, d, x, p, l, t, l', hv, hx, he, h6, h => by
  rw [exV] at h
  unfold ExG
  rw [if_pos rfl]
  obtain ⟨y, l2, h2, h⟩ := za h
  have e2 := zq f 0 1 (d + 1) .nil 0 l y l2 (fun _ => by omega) he h2
  have g1 := jj (by omega) (by omega) (zS f 0 1 (d + 1) .nil 0 l y l2 (fun h => by omega) (fun h => by omega) he h6 h2)
  have n1 := zw f 0 1 (d + 1) .nil 0 l y l2 (by omega) (by omega) h2
  split at h
  ·rename_i hn
   obtain ⟨s1, s2, s3, s4⟩ := e2.1.tail (by rw [hn]; simp)
   obtain ⟨gg, l4, h5, h⟩ := za h
   have q := zS f 7 0 d ce 0 l2.tail gg l4 (fun h => by omega) (fun h => by omega) s1 (by have := e2.2.1; omega) h5
   unfold ExG at q
   rw [if_pos rfl] at q
   obtain ⟨xs, hxs, hgg, hlen, hcnt⟩ := q
   obtain ⟨rfl, rfl⟩ := zk h
   refine ⟨y :: xs, by rw [hxs]; rfl, by rw [zy]; exact ⟨n1, g1.1, hgg⟩, ?_, ?_⟩
   ·have := join_cons y xs
    have := g1.2
    omega
   ·have := e2.2.1
    simp only [List.length_cons]
    omega
  ·obtain ⟨_, l3, h3, h⟩ := za h
   obtain ⟨e3, s3⟩ := zm h3 (by decide) e2.1
   obtain ⟨rfl, rfl⟩ := zk h
   refine ⟨[y], rfl, by rw [zy]; exact ⟨n1, g1.1, good_ce⟩, ?_, ?_⟩
   ·have := g1.2
    simp only [zB]
    omega
   ·have := e2.2.1
    simp
    omega
 | f + 1, g + 8, lv, d, x, p, l, t, l', hv, hx, he, h6, h => by rw [exV] at h; cases h
end Go.Proofs.YtnfhpdbbfejioaaGreatDoor
