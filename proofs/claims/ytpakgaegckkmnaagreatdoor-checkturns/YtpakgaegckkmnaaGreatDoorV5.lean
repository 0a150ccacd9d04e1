/- write walked: a mark of two. -/
import Derived.Test.YtpakgaegckkmnaaGreatDoorV4
import Derived.Deep.DeepCutAuto
namespace Go.Proofs.YtpakgaegckkmnaaGreatDoor
set_option linter.unusedVariables false
set_option linter.unusedSimpArgs false
open Go Go.RowKit

set_option maxRecDepth 100000 in
set_option maxHeartbeats 8000000 in
theorem wr_bin {a n : Int} {nm op : By} {l r g : Tr} (htl : l = .nil ∨ IsNd l) (IL : WrC l) (htr : r = .nil ∨ IsNd r) (IR : WrC r) : WrC (nd 3 a n nm op l r g) := by
  intro S B b s w v he hb hx hl
  have hT : wrT (nd 3 a n nm op l r g) = hold l (nearV op) (wrT l) ++ ([32] ++ op ++ [32]) ++ hold r (nearV op + 1) (wrT r) := by rw [wrT]; simp
  rw [hT] at hl
  rw [hT]
  obtain ⟨q, vl, vr, vg, ys, _, rfl, hq, hxl, hxr, hro, hrs, hxg⟩ := nd_open hx
  obtain ⟨y3, hy3, hyt3⟩ := str_y nm
  obtain ⟨y4, hy4, hyt4⟩ := str_y op
  rw [hy3, hy4] at hq
  have HPo : Hid (∀ w', Bd B b (s ++ (hold l (nearV op) (wrT l) ++ ([32] ++ op ++ [32]) ++ hold r (nearV op + 1) (wrT r))) w' → FrB B b w w' → WPost B b s (hold l (nearV op) (wrT l) ++ ([32] ++ op ++ [32]) ++ hold r (nearV op + 1) (wrT r)) w (.returned (.tuple #[])) w') := fun w' h1 h2 => ⟨rfl, h1, h2⟩
  generalize hG : WPost B b s (hold l (nearV op) (wrT l) ++ ([32] ++ op ++ [32]) ++ hold r (nearV op + 1) (wrT r)) w = G at *
  have HE : Hid (EnvW B w) := he
  have HB : Hid (Bd B b s w) := hb
  have HF0 : Hid (FrB B b w w) := FrB.refl _ _ _
  have HK : Hid (∀ W, FrB B b w W → W.heap[q]? = some (.cells #[.int .i64 3, .int .i64 a, .int .i64 n, .string y3, .string y4, vl, vr, vg] 134)) := fun W h => (h.keeps (fun _ => True) hb) q _ 134 trivial (by decide) hq
  have HXL : Hid (∀ W, FrB B b w W → ExAt S W l vl) := fun W h => (h.keeps S hb).ex hxl
  have HXR : Hid (∀ W, FrB B b w W → ExAt S W r vr) := fun W h => (h.keeps S hb).ex hxr
  have HY3 : Hid (y3.data.toList = nm ∧ y3.size = nm.length) := ⟨hyt3, by rw [← hyt3]; simp⟩
  have HY4 : Hid (y4.data.toList = op ∧ y4.size = op.length) := ⟨hyt4, by rw [← hyt4]; simp⟩
  have HL : Hid (s.length + (hold l (nearV op) (wrT l)).length + op.length + 2 + (hold r (nearV op + 1) (wrT r)).length ≤ 100000000000) := by show _ ≤ _; simp at hl; omega
  have HNr : Hid (∀ W, FrB B b w W → Calls Tryz.prog 66 #[.string y4] W fun e w' => e = .returned (.int .i64 (nearV op : Nat)) ∧ Below W.heap.size W w') := fun W h => by
    have := near_any y4 W (he.go h).env
    rw [hyt4] at this
    exact this
  have hn6 := near_le op
  have HHl : Hid (∀ (W : World), FrB B b w W → Bd B b s W → Calls Tryz.prog 65 #[.pointer (some ⟨b, 0, none⟩), vl, .int .i64 (nearV op : Nat)] W (WPost B b s (hold l (nearV op) (wrT l)) W)) := fun W h1 h2 => held_w IL htl (nearV op) (by omega) S B b s W vl (he.go h1) h2 ((h1.keeps S hb).ex hxl) (by have := HL.out; omega)
  have HHr : Hid (∀ (s : By) (W : World), FrB B b w W → Bd B b s W → s.length + (hold r (nearV op + 1) (wrT r)).length ≤ 100000000000 → Calls Tryz.prog 65 #[.pointer (some ⟨b, 0, none⟩), vr, .int .i64 ((nearV op : Nat) + 1)] W (WPost B b s (hold r (nearV op + 1) (wrT r)) W)) := fun s W h1 h2 h3 => by
    have := held_w IR htr (nearV op + 1) (by omega) S B b s W vr (he.go h1) h2 ((h1.keeps S hb).ex hxr) h3
    rw [show ((nearV op + 1 : Nat) : Int) = (nearV op : Nat) + 1 by omega] at this
    exact this
  have HHr2 : Hid (∀ (s : By) (W : World), FrB B b w W → Bd B b s W → s.length + (hold r (nearV op + 1) (wrT r)).length ≤ 100000000000 → Calls Tryz.prog 65 #[.pointer (some ⟨b, 0, none⟩), vr, .int .i64 (IntKind.i64.wrap ((nearV op : Nat) + 1))] W (WPost B b s (hold r (nearV op + 1) (wrT r)) W)) := fun s W h1 h2 h3 => by
    rw [i64_same (by omega) (by omega)]
    exact HHr.out s W h1 h2 h3
  have hop : y4.size ≤ 100000000000 := by rw [HY4.out.2]; have := HL.out; omega
  have HOP : Hid (y4.size ≤ 100000000000) := hop
  have hFd : FrB B b w w.drew := FrB.of (Below.refl _ _).drew he.le
  have HFd : Hid (FrB B b w w.drew) := hFd
  have k0w := cell_at (i := 0) (HK.out w HF0.out) rfl
  have k4w := cell_at (i := 4) (HK.out w HF0.out) rfl
  have k5w := cell_at (i := 5) (HK.out w HF0.out) rfl
  have k4d := cell_at (i := 4) (HK.out w.drew hFd) rfl
  have k5d := cell_at (i := 5) (HK.out w.drew hFd) rfl
  obtain ⟨nv, hnv⟩ : ∃ nv, nv = nearV op := ⟨_, rfl⟩
  rw [← hnv] at HHl HNr HHr HHr2 HL HPo hn6
  clear hG he hb hx hl hT hq hxl hxr hro hrs hxg hy3 hy4 hyt3 hyt4
  clear hnv hFd IL IR htl htr
  go_enter Tryz.func52, Tryz.ntmps52
  go_upto_region 7 with fail
  go_cut [] (fun wx => Hid (Bd B b (s ++ hold l nv (wrT l)) wx ∧ FrB B b w wx))
  case first =>
    go_region_with (first
      | (go_at_call 66; refine (HNr.out _ HFd.out).mono ?_; rintro e w1 ⟨rfl, hb1⟩; have HF1 : Hid (FrB B b w w1) := HFd.out.trans (FrB.of hb1 (HE.out.go HFd.out).le); have HD1 : Hid (Bd B b s w1) := (HB.out.below (Below.refl _ _).drew).below hb1; have k5w1 := cell_at (i := 5) (HK.out w1 HF1.out) rfl; clear hb1)
      | (go_at_call 65; refine (HHl.out _ HF1.out HD1.out).mono ?_; rintro e w2 ⟨rfl, hd, hf⟩; have HD2 : Hid (Bd B b (s ++ hold l nv (wrT l)) w2) := hd; have HF2 : Hid (FrB B b w w2) := HF1.out.trans hf; clear hd hf))
    all_goals (go_wp2_with fail; go_meet; exact ⟨HD2.out, HF2.out⟩)
  case rest =>
    obtain ⟨w2, hw2⟩ : ∃ w2, w2 = wc := ⟨_, rfl⟩
    rw [← hw2] at hcut ⊢
    have HD2 : Hid (Bd B b (s ++ hold l nv (wrT l)) w2) := hcut.out.1
    have HF2 : Hid (FrB B b w w2) := hcut.out.2
    clear hcut hw2 k4w k5w k4d k5d
    have k4w2 := cell_at (i := 4) (HK.out w2 HF2.out) rfl
    go_wp2_with (go_at_call 17; fail)
    generalize hx1 : (⟨#[32]⟩ : ByteArray) ++ y4 ++ (⟨#[32]⟩ : ByteArray) = x1
    have ht1 : x1.data.toList = [32] ++ op ++ [32] := by rw [← hx1, app_toList, app_toList, HY4.out.1]
    have hz1 : x1.size = op.length + 2 := by rw [← hx1, app_size, app_size, HY4.out.2]; show 1 + op.length + 1 = _; omega
    refine (ws x1 HD2.out (HE.out.go HF2.out).le (by rw [hz1]; have := HL.out; simp; omega)).mono ?_
    rintro e w3 ⟨rfl, hd, hf⟩
    rw [ht1] at hd
    have HD3 : Hid (Bd B b (s ++ hold l nv (wrT l) ++ ([32] ++ op ++ [32])) w3) := hd
    have HF3 : Hid (FrB B b w w3) := HF2.out.trans hf
    have hF3d : FrB B b w w3.drew := HF3.out.trans (FrB.of (Below.refl _ _).drew (HE.out.go HF3.out).le)
    have HF3d : Hid (FrB B b w w3.drew) := hF3d
    clear k4w2
    have k4w3 := cell_at (i := 4) (HK.out w3 HF3.out) rfl
    have k6w3 := cell_at (i := 6) (HK.out w3 HF3.out) rfl
    have k4w3d := cell_at (i := 4) (HK.out w3.drew hF3d) rfl
    have k6w3d := cell_at (i := 6) (HK.out w3.drew hF3d) rfl
    clear hd hf hx1 ht1 hz1 hF3d
    go_wp2_with (go_at_call 66; fail)
    go_region_with (first
      | (go_at_call 66; refine (HNr.out _ HF3d.out).mono ?_; rintro e w4 ⟨rfl, hb4⟩; have HF4 : Hid (FrB B b w w4) := HF3d.out.trans (FrB.of hb4 (HE.out.go HF3d.out).le); have HD4 : Hid (Bd B b (s ++ hold l nv (wrT l) ++ ([32] ++ op ++ [32])) w4) := (HD3.out.below (Below.refl _ _).drew).below hb4; have k6w4 := cell_at (i := 6) (HK.out w4 HF4.out) rfl; clear hb4)
      | (go_at_call 65; refine (HHr2.out _ _ HF4.out HD4.out (by have := HL.out; simp; omega)).mono ?_; rintro e w5 ⟨rfl, hd, hf⟩; have HD5 : Hid (Bd B b (s ++ (hold l nv (wrT l) ++ ([32] ++ op ++ [32]) ++ hold r (nv + 1) (wrT r))) w5) := (by simpa using hd : Bd B b _ w5); have HF5 : Hid (FrB B b w w5) := HF4.out.trans hf; clear hd hf))
    all_goals
      go_wp2
      go_end0
      exact HPo.out w5 HD5.out HF5.out
end Go.Proofs.YtpakgaegckkmnaaGreatDoor
