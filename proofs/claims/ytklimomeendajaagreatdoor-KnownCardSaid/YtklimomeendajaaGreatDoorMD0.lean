import Derived.Test.YtklimomeendajaaGreatDoorMC9
import Derived.Test.YtklimomeendajaaGreatDoorMC6
set_option linter.unusedVariables false
set_option linter.unusedSimpArgs false
/- machine: fit, match. -/
namespace Go.Proofs.YtklimomeendajaaGreatDoor
open Go.RowKit

section
variable {K : MC} {M : Nat} {w w' : World} {m m' : MX} {D D' : MD} {f : Nat}

set_option maxHeartbeats 3200000 in
set_option maxRecDepth 100000 in
theorem fit_step {nn : Nat} (ih : FOk K M m D nn) : FOk K M m D (nn + 1) := by
  intro i v sg rr hx0 w V x h hv hs
  unfold kFit at hx0
  obtain ⟨⟨pk, nu, bi, p1, p2⟩, hp, hx⟩ := bindO hx0
  clear hx0
  obtain ⟨kv, nv, pav, prv, bdv, sgv, wtv, pv, xv, yv, hve, rfl, hpa, -, -⟩ := val_out hv
  have hvN : vN v = nv := by rw [hve]; rfl
  have hvP : vParts v = pav := by rw [hve]; rfl
  obtain ⟨ox, rfl⟩ := ptr_of hs (.inl rfl)
  obtain ⟨⟨op1, rfl⟩, ⟨op2, rfl⟩, op3, rfl⟩ := val_ptrs hv
  show Calls Tryz.prog 214 #[pT M, iV i, .agg #[iV kv, iV nv, .pointer op1, iV prv, iV bdv, .pointer op2, .pointer op3], .pointer ox] w _
  simp only at hx
  obtain ⟨pg, pcap, j, rfl, ⟨hj1, hj2, hj3, hj4⟩, ⟨x0, x1, x2, x3, x4⟩⟩ := h.pt hp
  have HVv : Hid (Lies w v 0 (vCells kv nv (.pointer op1) prv bdv (.pointer op2) (.pointer op3))) := hv
  have HS : Hid (Lies w sg 1 [.pointer ox]) := hs
  have HPA : Hid (Lies w pav 3 [.pointer op1]) := hpa
  have HVP : Hid (vParts v = pav) := hvP
  have hpl : K.c.t.pats.length ≤ 9223372036854775807 := row_le h.cd.tr.p
  clear hp hv hs hpa
  rw [hvN] at hx
  clear hvN hvP hve
  obtain ⟨k, n, p, pr, bd, q, r, hV, hb⟩ := h.cells
  obtain ⟨⟨c0, c1, c2, c3, c4, c5, c6, c7, c8, c9, c10, c11, c12, c13, c14, c15, c16⟩, hf⟩ := mc17 hb
  have f1 := hf 1; have f2 := hf 2; have f3 := hf 3; have f4 := hf 4; have f5 := hf 5; have f6 := hf 6; have f7 := hf 7; have f8 := hf 8; have f9 := hf 9; have f10 := hf 10; have f11 := hf 11; have f12 := hf 12; have f13 := hf 13; have f14 := hf 14; have f15 := hf 15; have f16 := hf 16
  have hl := blk_lt hb
  have H : Hid (Mc K M w m D) := h
  have HB : Hid (w.heap[M]? = some (.cells #[pT K.cb, D.iv, .bool m.lk, iV m.ex, D.sp, iV k, iV n, p, iV pr, iV bd, q, r, D.wp, iV m.st, .string (bz m.tx), D.pv, iV m.jm] 198 (0, 0))) := hb
  have HV : Hid (D.V = vCells k n p pr bd q r) := hV
  clear h hb hf hV
  clear c1 c2 c3 c4 c5 c6 c7 c8 c9 c10 c11 c12 c13 c14 c15 c16 f1 f2 f3 f4 f5 f6 f7 f8 f9 f10 f11 f12 f13 f14 f15 f16
  go_enter Tryz.func214, Tryz.ntmps214
  by_cases k1 : pk = 1
  · rw [if_pos k1] at hx
    subst k1
    injection hx with hx
    by_cases hc : nv = nu
    · rw [if_pos hc] at hx
      subst hx
      subst hc
      go_wp2_with fail
      go_ret2
      exact ⟨(by repeat (first | with_reducible exact Fr.refl _ _ | (with_reducible refine Fr.drew ?_) | (with_reducible refine Fr.drewN ?_ _) | (with_reducible refine Fr.alloc ?_ _) | ((with_reducible refine Fr.setCell ?_ ?_ _); rotate_left; first | exact .inl rfl | exact .inr (Nat.le_refl _) | exact .inl (Nat.le_refl _) | (focus (left; simp; done)) | (focus (left; simp; omega)) | (focus (left; omega)) | (focus (right; simp; done)) | (focus (right; simp; omega)) | (focus (right; omega))) | exact Fr.refl _ _)), ox, rfl, fun c h => by injection h with h; subst h; exact HS.out.keep (Fr.kp (O := fun _ => False) (by repeat (first | with_reducible exact Fr.refl _ _ | (with_reducible refine Fr.drew ?_) | (with_reducible refine Fr.drewN ?_ _) | (with_reducible refine Fr.alloc ?_ _) | ((with_reducible refine Fr.setCell ?_ ?_ _); rotate_left; first | exact .inl rfl | exact .inr (Nat.le_refl _) | exact .inl (Nat.le_refl _) | (focus (left; simp; done)) | (focus (left; simp; omega)) | (focus (left; omega)) | (focus (right; simp; done)) | (focus (right; simp; omega)) | (focus (right; omega))) | exact Fr.refl _ _)) (fun _ _ _ h => h.elim))⟩
    · rw [if_neg hc] at hx
      subst hx
      have hc' : (nv == nu) = false := by simp [hc]
      go_wp2_with fail
      go_ret2
      exact ⟨(by repeat (first | with_reducible exact Fr.refl _ _ | (with_reducible refine Fr.drew ?_) | (with_reducible refine Fr.drewN ?_ _) | (with_reducible refine Fr.alloc ?_ _) | ((with_reducible refine Fr.setCell ?_ ?_ _); rotate_left; first | exact .inl rfl | exact .inr (Nat.le_refl _) | exact .inl (Nat.le_refl _) | (focus (left; simp; done)) | (focus (left; simp; omega)) | (focus (left; omega)) | (focus (right; simp; done)) | (focus (right; simp; omega)) | (focus (right; omega))) | exact Fr.refl _ _)), none, rfl, fun c h => by cases h⟩
  rw [if_neg k1] at hx
  by_cases k2 : pk = 2
  · rw [if_pos k2] at hx
    subst k2
    injection hx with hx
    by_cases hc : nv = 1
    · rw [if_pos hc] at hx
      subst hx
      subst hc
      go_wp2_with fail
      go_ret2
      exact ⟨(by repeat (first | with_reducible exact Fr.refl _ _ | (with_reducible refine Fr.drew ?_) | (with_reducible refine Fr.drewN ?_ _) | (with_reducible refine Fr.alloc ?_ _) | ((with_reducible refine Fr.setCell ?_ ?_ _); rotate_left; first | exact .inl rfl | exact .inr (Nat.le_refl _) | exact .inl (Nat.le_refl _) | (focus (left; simp; done)) | (focus (left; simp; omega)) | (focus (left; omega)) | (focus (right; simp; done)) | (focus (right; simp; omega)) | (focus (right; omega))) | exact Fr.refl _ _)), ox, rfl, fun c h => by injection h with h; subst h; exact HS.out.keep (Fr.kp (O := fun _ => False) (by repeat (first | with_reducible exact Fr.refl _ _ | (with_reducible refine Fr.drew ?_) | (with_reducible refine Fr.drewN ?_ _) | (with_reducible refine Fr.alloc ?_ _) | ((with_reducible refine Fr.setCell ?_ ?_ _); rotate_left; first | exact .inl rfl | exact .inr (Nat.le_refl _) | exact .inl (Nat.le_refl _) | (focus (left; simp; done)) | (focus (left; simp; omega)) | (focus (left; omega)) | (focus (right; simp; done)) | (focus (right; simp; omega)) | (focus (right; omega))) | exact Fr.refl _ _)) (fun _ _ _ h => h.elim))⟩
    · rw [if_neg hc] at hx
      subst hx
      have hc' : (nv == 1) = false := by simp [hc]
      go_wp2_with fail
      go_ret2
      exact ⟨(by repeat (first | with_reducible exact Fr.refl _ _ | (with_reducible refine Fr.drew ?_) | (with_reducible refine Fr.drewN ?_ _) | (with_reducible refine Fr.alloc ?_ _) | ((with_reducible refine Fr.setCell ?_ ?_ _); rotate_left; first | exact .inl rfl | exact .inr (Nat.le_refl _) | exact .inl (Nat.le_refl _) | (focus (left; simp; done)) | (focus (left; simp; omega)) | (focus (left; omega)) | (focus (right; simp; done)) | (focus (right; simp; omega)) | (focus (right; omega))) | exact Fr.refl _ _)), none, rfl, fun c h => by cases h⟩
  rw [if_neg k2] at hx
  by_cases k3 : pk = 3
  · rw [if_pos k3] at hx
    subst k3
    injection hx with hx
    by_cases hc : nv = 0
    · rw [if_pos hc] at hx
      subst hx
      subst hc
      go_wp2_with fail
      go_ret2
      exact ⟨(by repeat (first | with_reducible exact Fr.refl _ _ | (with_reducible refine Fr.drew ?_) | (with_reducible refine Fr.drewN ?_ _) | (with_reducible refine Fr.alloc ?_ _) | ((with_reducible refine Fr.setCell ?_ ?_ _); rotate_left; first | exact .inl rfl | exact .inr (Nat.le_refl _) | exact .inl (Nat.le_refl _) | (focus (left; simp; done)) | (focus (left; simp; omega)) | (focus (left; omega)) | (focus (right; simp; done)) | (focus (right; simp; omega)) | (focus (right; omega))) | exact Fr.refl _ _)), ox, rfl, fun c h => by injection h with h; subst h; exact HS.out.keep (Fr.kp (O := fun _ => False) (by repeat (first | with_reducible exact Fr.refl _ _ | (with_reducible refine Fr.drew ?_) | (with_reducible refine Fr.drewN ?_ _) | (with_reducible refine Fr.alloc ?_ _) | ((with_reducible refine Fr.setCell ?_ ?_ _); rotate_left; first | exact .inl rfl | exact .inr (Nat.le_refl _) | exact .inl (Nat.le_refl _) | (focus (left; simp; done)) | (focus (left; simp; omega)) | (focus (left; omega)) | (focus (right; simp; done)) | (focus (right; simp; omega)) | (focus (right; omega))) | exact Fr.refl _ _)) (fun _ _ _ h => h.elim))⟩
    · rw [if_neg hc] at hx
      subst hx
      have hc' : (nv == 0) = false := by simp [hc]
      go_wp2_with fail
      go_ret2
      exact ⟨(by repeat (first | with_reducible exact Fr.refl _ _ | (with_reducible refine Fr.drew ?_) | (with_reducible refine Fr.drewN ?_ _) | (with_reducible refine Fr.alloc ?_ _) | ((with_reducible refine Fr.setCell ?_ ?_ _); rotate_left; first | exact .inl rfl | exact .inr (Nat.le_refl _) | exact .inl (Nat.le_refl _) | (focus (left; simp; done)) | (focus (left; simp; omega)) | (focus (left; omega)) | (focus (right; simp; done)) | (focus (right; simp; omega)) | (focus (right; omega))) | exact Fr.refl _ _)), none, rfl, fun c h => by cases h⟩
  rw [if_neg k3] at hx
  by_cases k5 : pk = 5
  · rw [if_pos k5] at hx
    subst k5
    injection hx with hx
    rw [HVP.out] at hx
    rcases pa_out HPA.out with ⟨rfl, hop⟩ | ⟨a, b, _, _, gg, rfl, hop, -⟩
    · injection hop with hop
      subst hop
      rw [if_neg (by simp [isC])] at hx
      subst hx
      go_wp2_with fail
      go_ret2
      exact ⟨(by repeat (first | with_reducible exact Fr.refl _ _ | (with_reducible refine Fr.drew ?_) | (with_reducible refine Fr.drewN ?_ _) | (with_reducible refine Fr.alloc ?_ _) | ((with_reducible refine Fr.setCell ?_ ?_ _); rotate_left; first | exact .inl rfl | exact .inr (Nat.le_refl _) | exact .inl (Nat.le_refl _) | (focus (left; simp; done)) | (focus (left; simp; omega)) | (focus (left; omega)) | (focus (right; simp; done)) | (focus (right; simp; omega)) | (focus (right; omega))) | exact Fr.refl _ _)), ox, rfl, fun c h => by injection h with h; subst h; exact HS.out.keep (Fr.kp (O := fun _ => False) (by repeat (first | with_reducible exact Fr.refl _ _ | (with_reducible refine Fr.drew ?_) | (with_reducible refine Fr.drewN ?_ _) | (with_reducible refine Fr.alloc ?_ _) | ((with_reducible refine Fr.setCell ?_ ?_ _); rotate_left; first | exact .inl rfl | exact .inr (Nat.le_refl _) | exact .inl (Nat.le_refl _) | (focus (left; simp; done)) | (focus (left; simp; omega)) | (focus (left; omega)) | (focus (right; simp; done)) | (focus (right; simp; omega)) | (focus (right; omega))) | exact Fr.refl _ _)) (fun _ _ _ h => h.elim))⟩
    · injection hop with hop
      subst hop
      rw [if_pos (show isC (cP a b) = true from rfl)] at hx
      subst hx
      go_wp2_with fail
      go_ret2
      exact ⟨(by repeat (first | with_reducible exact Fr.refl _ _ | (with_reducible refine Fr.drew ?_) | (with_reducible refine Fr.drewN ?_ _) | (with_reducible refine Fr.alloc ?_ _) | ((with_reducible refine Fr.setCell ?_ ?_ _); rotate_left; first | exact .inl rfl | exact .inr (Nat.le_refl _) | exact .inl (Nat.le_refl _) | (focus (left; simp; done)) | (focus (left; simp; omega)) | (focus (left; omega)) | (focus (right; simp; done)) | (focus (right; simp; omega)) | (focus (right; omega))) | exact Fr.refl _ _)), none, rfl, fun c h => by cases h⟩
  rw [if_neg k5] at hx
  by_cases k4 : pk = 4
  · rw [if_pos k4] at hx
    subst k4
    injection hx with hx
    subst hx
    go_wp2_with fail
    go_ret2
    have b1 := blk_new ((w.alloc (.cells #[iV kv, iV nv, .pointer op1, iV prv, iV bdv, .pointer op2, .pointer op3] 196)).alloc (.cells #[iV 4, iV nu, iV bi, iV p1, iV p2] 315)) (.cells #[iV bi, iV kv, iV nv, .pointer op1, iV prv, iV bdv, .pointer op2, .pointer op3, iV 0, pN, .pointer ox] 247)
    rw [show ((w.alloc (.cells #[iV kv, iV nv, .pointer op1, iV prv, iV bdv, .pointer op2, .pointer op3] 196)).alloc (.cells #[iV 4, iV nu, iV bi, iV p1, iV p2] 315)).heap.size = w.heap.size + 1 + 1 by simp] at b1
    have hFz : Fr (fun _ => False) w (((w.alloc (.cells #[iV kv, iV nv, .pointer op1, iV prv, iV bdv, .pointer op2, .pointer op3] 196)).alloc (.cells #[iV 4, iV nu, iV bi, iV p1, iV p2] 315)).alloc (.cells #[iV bi, iV kv, iV nv, .pointer op1, iV prv, iV bdv, .pointer op2, .pointer op3, iV 0, pN, .pointer ox] 247)) := (by repeat (first | with_reducible exact Fr.refl _ _ | (with_reducible refine Fr.drew ?_) | (with_reducible refine Fr.drewN ?_ _) | (with_reducible refine Fr.alloc ?_ _) | ((with_reducible refine Fr.setCell ?_ ?_ _); rotate_left; first | exact .inl rfl | exact .inr (Nat.le_refl _) | exact .inl (Nat.le_refl _) | (focus (left; simp; done)) | (focus (left; simp; omega)) | (focus (left; omega)) | (focus (right; simp; done)) | (focus (right; simp; omega)) | (focus (right; omega))) | exact Fr.refl _ _))
    have hkz : Kp w (((w.alloc (.cells #[iV kv, iV nv, .pointer op1, iV prv, iV bdv, .pointer op2, .pointer op3] 196)).alloc (.cells #[iV 4, iV nu, iV bi, iV p1, iV p2] 315)).alloc (.cells #[iV bi, iV kv, iV nv, .pointer op1, iV prv, iV bdv, .pointer op2, .pointer op3, iV 0, pN, .pointer ox] 247)) := hFz.kp fun _ _ _ h => h.elim
    exact ⟨hFz, some ⟨w.heap.size + 1 + 1, 0, none⟩, rfl, fun c h => by injection h with h; subst h; exact sg_in (V := vCells kv nv (.pointer op1) prv bdv (.pointer op2) (.pointer op3)) b1 (HVv.out.keep hkz) nil1 (HS.out.keep hkz)⟩
  rw [if_neg k4] at hx
  by_cases k78 : pk = 7 ∨ pk = 8
  · rw [if_pos k78] at hx
    have HX : Hid (kParts K.c.t nn p1 p2 (vParts v) sg = some rr) := hx
    clear hx
    rcases k78 with rfl | rfl
    · go_wp2_with fail
      generalize hW : (w.alloc (.cells #[iV kv, iV nv, .pointer op1, iV prv, iV bdv, .pointer op2, .pointer op3] 196)).alloc (.cells #[iV 7, iV nu, iV bi, iV p1, iV p2] 315) = W
      have HFW : Hid (Fr (fun _ => False) w W) := by rw [← hW]; show Fr _ _ _; exact (by repeat (first | with_reducible exact Fr.refl _ _ | (with_reducible refine Fr.drew ?_) | (with_reducible refine Fr.drewN ?_ _) | (with_reducible refine Fr.alloc ?_ _) | ((with_reducible refine Fr.setCell ?_ ?_ _); rotate_left; first | exact .inl rfl | exact .inr (Nat.le_refl _) | exact .inl (Nat.le_refl _) | (focus (left; simp; done)) | (focus (left; simp; omega)) | (focus (left; omega)) | (focus (right; simp; done)) | (focus (right; simp; omega)) | (focus (right; omega))) | exact Fr.refl _ _))
      clear hW
      have hkW : Kp w W := HFW.out.kp fun _ _ _ h => h.elim
      refine (fitParts_c ih (H.out.fr HFW.out) (HVv.out.keep hkW) (HS.out.keep hkW) HX.out).mono ?_
      rintro e1 w1 ⟨hF1, q1, rfl, hq1⟩
      have HF1 : Hid (Fr (fun _ => False) w w1) := HFW.out.trans hF1 (fun _ h => h.elim)
      have HQ1 : Hid (∀ c, rr = some c → Lies w1 c 1 [.pointer q1]) := hq1
      clear hF1 hq1 hkW
      go_wp2_with fail
      go_ret2
      exact ⟨HF1.out, q1, rfl, HQ1.out⟩
    · go_wp2_with fail
      generalize hW : (w.alloc (.cells #[iV kv, iV nv, .pointer op1, iV prv, iV bdv, .pointer op2, .pointer op3] 196)).alloc (.cells #[iV 8, iV nu, iV bi, iV p1, iV p2] 315) = W
      have HFW : Hid (Fr (fun _ => False) w W) := by rw [← hW]; show Fr _ _ _; exact (by repeat (first | with_reducible exact Fr.refl _ _ | (with_reducible refine Fr.drew ?_) | (with_reducible refine Fr.drewN ?_ _) | (with_reducible refine Fr.alloc ?_ _) | ((with_reducible refine Fr.setCell ?_ ?_ _); rotate_left; first | exact .inl rfl | exact .inr (Nat.le_refl _) | exact .inl (Nat.le_refl _) | (focus (left; simp; done)) | (focus (left; simp; omega)) | (focus (left; omega)) | (focus (right; simp; done)) | (focus (right; simp; omega)) | (focus (right; omega))) | exact Fr.refl _ _))
      clear hW
      have hkW : Kp w W := HFW.out.kp fun _ _ _ h => h.elim
      refine (fitParts_c ih (H.out.fr HFW.out) (HVv.out.keep hkW) (HS.out.keep hkW) HX.out).mono ?_
      rintro e1 w1 ⟨hF1, q1, rfl, hq1⟩
      have HF1 : Hid (Fr (fun _ => False) w w1) := HFW.out.trans hF1 (fun _ h => h.elim)
      have HQ1 : Hid (∀ c, rr = some c → Lies w1 c 1 [.pointer q1]) := hq1
      clear hF1 hq1 hkW
      go_wp2_with fail
      go_ret2
      exact ⟨HF1.out, q1, rfl, HQ1.out⟩
  · rw [if_neg k78] at hx
    injection hx with hx
    subst hx
    simp only [not_or] at k78
    obtain ⟨k7, k8⟩ := k78
    go_wp2_with fail
    go_ret2
    exact ⟨(by repeat (first | with_reducible exact Fr.refl _ _ | (with_reducible refine Fr.drew ?_) | (with_reducible refine Fr.drewN ?_ _) | (with_reducible refine Fr.alloc ?_ _) | ((with_reducible refine Fr.setCell ?_ ?_ _); rotate_left; first | exact .inl rfl | exact .inr (Nat.le_refl _) | exact .inl (Nat.le_refl _) | (focus (left; simp; done)) | (focus (left; simp; omega)) | (focus (left; omega)) | (focus (right; simp; done)) | (focus (right; simp; omega)) | (focus (right; omega))) | exact Fr.refl _ _)), ox, rfl, fun c h => by injection h with h; subst h; exact HS.out.keep (Fr.kp (O := fun _ => False) (by repeat (first | with_reducible exact Fr.refl _ _ | (with_reducible refine Fr.drew ?_) | (with_reducible refine Fr.drewN ?_ _) | (with_reducible refine Fr.alloc ?_ _) | ((with_reducible refine Fr.setCell ?_ ?_ _); rotate_left; first | exact .inl rfl | exact .inr (Nat.le_refl _) | exact .inl (Nat.le_refl _) | (focus (left; simp; done)) | (focus (left; simp; omega)) | (focus (left; omega)) | (focus (right; simp; done)) | (focus (right; simp; omega)) | (focus (right; omega))) | exact Fr.refl _ _)) (fun _ _ _ h => h.elim))⟩

theorem fit_all (K : MC) (M : Nat) (m : MX) (D : MD) : ∀ n, FOk K M m D n
  | 0 => fun _ _ _ _ h => by simp [kFit] at h
  | n + 1 => fit_step (fit_all K M m D n)
end
end Go.Proofs.YtklimomeendajaaGreatDoor

/- machine: match. -/
namespace Go.Proofs.YtklimomeendajaaGreatDoor
open Go.RowKit

section
variable {K : MC} {M : Nat} {w w' : World} {m m' : MX} {D D' : MD} {f : Nat}

set_option maxHeartbeats 3200000 in
set_option maxRecDepth 100000 in
theorem match_c (h : Mc K M w m D) {v sg : Code} {V : List Value} {x : Value} (hv : Lies w v 0 V) (hs : Lies w sg 1 [x]) {am : List (Int × Int)} {aa : Option Addr} {ac : Nat} (ham : w.ownsRow 0 264 2 (.slice aa am.length ac) am.length (armCells am)) (hx : kMatch K.c.t f v sg am m = some m') :
    Calls Tryz.prog 150 #[pT M, .slice aa am.length ac, .agg V.toArray, x] w fun e w' => e = .returned (.tuple #[]) ∧ Mn K M w D w' m' := by
  obtain ⟨kv, nv, pav, prv, bdv, sgv, wtv, pv, xv, yv, -, rfl, -⟩ := val_out hv
  obtain ⟨ox, rfl⟩ := ptr_of hs (.inl rfl)
  show Calls Tryz.prog 150 #[pT M, .slice aa am.length ac, .agg #[iV kv, iV nv, pv, iV prv, iV bdv, xv, yv], .pointer ox] w _
  have HVv : Hid (Lies w v 0 (vCells kv nv pv prv bdv xv yv)) := hv
  have HS : Hid (Lies w sg 1 [.pointer ox]) := hs
  have HAM : Hid (w.ownsRow 0 264 2 (.slice aa am.length ac) am.length (armCells am)) := ham
  have HX : Hid (kMatch K.c.t f v sg am m = some m') := hx
  have H : Hid (Mc K M w m D) := h
  have hal := row_le ham
  have HB0 : Hid ((w.alloc (.cells #[iV kv, iV nv, pv, iV prv, iV bdv, xv, yv] 196)).heap[w.heap.size]? = some (.cells #[iV kv, iV nv, pv, iV prv, iV bdv, xv, yv] 196 (0, 0))) := blk_new w _
  have HF0 : Hid (Fr (fun _ => False) w (w.alloc (.cells #[iV kv, iV nv, pv, iV prv, iV bdv, xv, yv] 196))) := (Fr.refl _ w).alloc _
  clear hv hs ham hx h
  go_enter Tryz.func150, Tryz.ntmps150
  go_wp2_with fail
  go_loopg [8] am.length (fun k iv wr => ∃ (i : Nat), iv = .int .i64 i ∧ i ≤ am.length ∧ k = am.length - i ∧ kMatch K.c.t f v sg (am.drop i) m = some m' ∧ Fr (fun _ => False) w wr ∧ wr.heap[w.heap.size]? = some (.cells #[iV kv, iV nv, pv, iV prv, iV bdv, xv, yv] 196 (0, 0)))
  case atStart => exact ⟨0, rfl, Nat.zero_le _, rfl, HX.out, HF0.out, HB0.out⟩
  case round =>
    obtain ⟨i, rfl, hi, hk, hx, hF, hB⟩ := hrel
    have HM : Hid (gk = am.length - i) := hk
    have HF : Hid (Fr (fun _ => False) w wr) := hF
    have HB : Hid (wr.heap[w.heap.size]? = some (.cells #[iV kv, iV nv, pv, iV prv, iV bdv, xv, yv] 196 (0, 0))) := hB
    have HR : Hid (wr.ownsRow 0 264 2 (.slice aa am.length ac) am.length (armCells am)) := rowKeep hF HAM.out (fun _ _ h => h)
    have HVr : Hid (Lies wr v 0 (vCells kv nv pv prv bdv xv yv)) := HVv.out.keep (hF.kp fun _ _ _ h => h.elim)
    have HSr : Hid (Lies wr sg 1 [.pointer ox]) := HS.out.keep (hF.kp fun _ _ _ h => h.elim)
    obtain ⟨⟨s0, s1, s2, s3, s4, s5, s6⟩, -⟩ := cells7 hB
    have sl := blk_lt hB
    clear hk hF hB HX HF0 HB0
    by_cases hil : i < am.length
    · obtain ⟨ag, acap, hav, y0, y1⟩ := armRow HR.out hil
      injection hav with haa hal2 hac
      clear hal2
      subst haa hac
      have hagl : ag < wr.heap.size := (HR.out.lt ag rfl).2
      have q1 : (i : Int) < (am.length : Int) := by omega
      rw [List.drop_eq_getElem_cons hil] at hx
      obtain ⟨⟨a1, a2⟩, hai⟩ : ∃ g, am[i] = g := ⟨_, rfl⟩
      rw [hai] at hx y0 y1
      simp only at y0 y1
      unfold kMatch at hx
      obtain ⟨r1, hr1, hx⟩ := bindO hx
      have HR1 : Hid (kFit K.c.t f a1 v sg = some r1) := hr1
      have HX1 : Hid _ := hx
      have HFd : Hid (Fr (fun _ => False) wr wr.drew) := by show Fr _ _ _; exact (by repeat (first | with_reducible exact Fr.refl _ _ | (with_reducible refine Fr.drew ?_) | (with_reducible refine Fr.drewN ?_ _) | (with_reducible refine Fr.alloc ?_ _) | ((with_reducible refine Fr.setCell ?_ ?_ _); rotate_left; first | exact .inl rfl | exact .inr (Nat.le_refl _) | exact .inl (Nat.le_refl _) | (focus (left; simp; done)) | (focus (left; simp; omega)) | (focus (left; omega)) | (focus (right; simp; done)) | (focus (right; simp; omega)) | (focus (right; omega))) | exact Fr.refl _ _))
      have HKd : Hid (Kp wr wr.drew) := HFd.out.kp fun _ _ _ h => h.elim
      clear hai hr1 hx
      go_wp2_with fail
      go_region_law (rw [if_pos (by simp [Region.wanted])]; unfold Oper.wp; go_simp; go_at_call 214; refine (fit_all K M m D f a1 v sg r1 HR1.out wr.drew _ _ ((H.out.fr HF.out).fr HFd.out) (HVr.out.keep HKd.out) (HSr.out.keep HKd.out)).mono ?_; rintro e1 w1 ⟨hF1, q1', rfl, hq1⟩)
      all_goals
       have hFw1 : Fr (fun _ => False) wr w1 := HFd.out.trans hF1 (fun _ h => h.elim)
       have HF1 : Hid (Fr (fun _ => False) w w1) := HF.out.trans hFw1 (fun _ h => h.elim)
       have HQ1 : Hid (∀ c, r1 = some c → Lies w1 c 1 [.pointer q1']) := hq1
       have hb1 := (hFw1.block _ (blk_lt HB.out) id).trans HB.out
       have HB1 : Hid (w1.heap[w.heap.size]? = some (.cells #[iV kv, iV nv, pv, iV prv, iV bdv, xv, yv] 196 (0, 0))) := hb1
       have hag1 : w1.heap[ag]? = wr.heap[ag]? := hFw1.block ag hagl id
       have u0 := (World.cell?_of_block (w := wr) (a := ⟨ag, i * 2, none⟩) hag1).trans y0
       have u1 := (World.cell?_of_block (w := wr) (a := ⟨ag, i * 2 + 1, none⟩) hag1).trans y1
       have hagl1 : ag < w1.heap.size := Nat.lt_of_lt_of_le hagl hFw1.size
       clear hF1 hFw1 hq1 hb1 hag1 y0 y1 s0 s1 s2 s3 s4 s5 s6 sl
       cases r1 with
       | some sg1 =>
         have hx := HX1.out
         injection hx with hx
         subst hx
         clear HX1
         go_wp2_with fail
         refine (lookAt_c (H.out.fr HF1.out) (HQ1.out _ rfl)).mono ?_
         rintro e2 w2 ⟨rfl, hN⟩
         have HN : Hid (Mn K M w D w2 (kLook m a2 sg1)) := hN.pre HF1.out
         clear hN
         go_wp2_with fail
         (first | go_end0 | ((try simp only [Exit.inBlock, Exit.then]); refine bodyPost_ret (results_none rfl _ _ _) rfl ?_))
         exact ⟨rfl, HN.out⟩
       | none =>
         have HX2 : Hid (kMatch K.c.t f v sg (am.drop (i + 1)) m = some m') := HX1.out
         clear HX1
         go_wp2_with fail
         go_roundg (am.length - (i + 1))
         case measure => rw [HM.out]; omega
         case rel => exact ⟨i + 1, by go_num, by omega, rfl, HX2.out, HF1.out, HB1.out⟩
    · obtain rfl : i = am.length := by omega
      rw [List.drop_length] at hx
      have HX2 : Hid (kRaise K.c.t m (-2) m.wt = some m') := hx
      clear hx
      go_wp2_with fail
      refine (raise_c (H.out.fr HF.out) HX2.out).mono ?_
      rintro e2 w2 ⟨rfl, hN⟩
      have HN : Hid (Mn K M w D w2 m') := hN.pre HF.out
      clear hN
      go_wp2_with fail
      (first | go_end0 | ((try simp only [Exit.inBlock, Exit.then]); refine bodyPost_ret (results_none rfl _ _ _) rfl ?_))
      exact ⟨rfl, HN.out⟩
end
end Go.Proofs.YtklimomeendajaaGreatDoor

/- machine: both. -/
namespace Go.Proofs.YtklimomeendajaaGreatDoor
open Go.RowKit

section
variable {K : MC} {M : Nat} {w w' : World} {m m' : MX} {D D' : MD} {f : Nat}

theorem in32_and {a b : Int} (h : ¬ (in32 a && in32 b) = false) : (-2147483648 ≤ a ∧ a ≤ 2147483647) ∧ (-2147483648 ≤ b ∧ b ≤ 2147483647) := by
  unfold in32 at h
  simp only [Bool.not_eq_false, Bool.and_eq_true, decide_eq_true_eq] at h
  exact h

set_option maxHeartbeats 3200000 in
set_option maxRecDepth 100000 in
theorem both_c (h : Mc K M w m D) {k : Int} {a b : Code} {A B : List Value} (ha : Lies w a 0 A) (hb : Lies w b 0 B) (hx : kBoth K.c.t f m k a b = some m') :
    Calls Tryz.prog 216 #[pT M, iV k, .agg A.toArray, .agg B.toArray] w fun e w' => e = .returned (.tuple #[]) ∧ Mn K M w D w' m' := by
  obtain ⟨ka, na, paa, pra, bda, sga, wta, pa, xa, ya, hea, rfl, -, -, hwa⟩ := val_out ha
  obtain ⟨kb, nb, pab, prb, bdb, sgb, wtb, pb, xb, yb, heb, rfl, -⟩ := val_out hb
  obtain ⟨⟨oa1, rfl⟩, ⟨oa2, rfl⟩, oa3, rfl⟩ := val_ptrs ha
  obtain ⟨⟨ob1, rfl⟩, ⟨ob2, rfl⟩, ob3, rfl⟩ := val_ptrs hb
  show Calls Tryz.prog 216 #[pT M, iV k, .agg #[iV ka, iV na, .pointer oa1, iV pra, iV bda, .pointer oa2, .pointer oa3], .agg #[iV kb, iV nb, .pointer ob1, iV prb, iV bdb, .pointer ob2, .pointer ob3]] w _
  have hna : vN a = na := by rw [hea]; rfl
  have hnb : vN b = nb := by rw [heb]; rfl
  have hwsa : vWs a = wta := by rw [hea]; rfl
  unfold kBoth at hx
  rw [hna, hnb, hwsa] at hx
  have hF0 : Fr (fun _ => False) w ((w.alloc (.cells #[iV ka, iV na, .pointer oa1, iV pra, iV bda, .pointer oa2, .pointer oa3] 196)).alloc (.cells #[iV kb, iV nb, .pointer ob1, iV prb, iV bdb, .pointer ob2, .pointer ob3] 196)) := (by repeat (first | with_reducible exact Fr.refl _ _ | (with_reducible refine Fr.drew ?_) | (with_reducible refine Fr.drewN ?_ _) | (with_reducible refine Fr.alloc ?_ _) | ((with_reducible refine Fr.setCell ?_ ?_ _); rotate_left; first | exact .inl rfl | exact .inr (Nat.le_refl _) | exact .inl (Nat.le_refl _) | (focus (left; simp; done)) | (focus (left; simp; omega)) | (focus (left; omega)) | (focus (right; simp; done)) | (focus (right; simp; omega)) | (focus (right; omega))) | exact Fr.refl _ _))
  obtain ⟨W, hW⟩ : ∃ W, W = (w.alloc (.cells #[iV ka, iV na, .pointer oa1, iV pra, iV bda, .pointer oa2, .pointer oa3] 196)).alloc (.cells #[iV kb, iV nb, .pointer ob1, iV prb, iV bdb, .pointer ob2, .pointer ob3] 196) := ⟨_, rfl⟩
  rw [← hW] at hF0
  have HF0 : Hid (Fr (fun _ => False) w W) := hF0
  have hk0 : Kp w W := hF0.kp fun _ _ _ h => h.elim
  have HA : Hid (Lies W a 0 (vCells ka na (.pointer oa1) pra bda (.pointer oa2) (.pointer oa3))) := ha.keep hk0
  have HB : Hid (Lies W b 0 (vCells kb nb (.pointer ob1) prb bdb (.pointer ob2) (.pointer ob3))) := hb.keep hk0
  have HWA : Hid (Lies W wta 2 [.pointer oa3]) := hwa.keep hk0
  have HW : Hid (W = (w.alloc (.cells #[iV ka, iV na, .pointer oa1, iV pra, iV bda, .pointer oa2, .pointer oa3] 196)).alloc (.cells #[iV kb, iV nb, .pointer ob1, iV prb, iV bdb, .pointer ob2, .pointer ob3] 196)) := hW
  have HH : Hid (Mc K M W m D) := h.fr hF0
  obtain ⟨_, _, _, _, _, _, _, -, hbm⟩ := h.cells
  obtain ⟨⟨-, -, -, -, -, -, -, -, -, -, -, -, c12, -⟩, hfm⟩ := mc17 hbm
  have f12 := hfm 12
  have hl := blk_lt hbm
  clear h ha hb hwa hF0 hk0 hW hna hnb hwsa hbm hfm
  go_enter Tryz.func216, Tryz.ntmps216
  by_cases k26 : k = 26
  · rw [if_pos k26] at hx
    subst k26
    injection hx with hx
    subst hx
    go_wp2_with fail
    rw [← HW.out]
    refine (call_c HH.out HA.out HB.out).mono ?_
    rintro r1 w1 ⟨rfl, hN⟩
    have HN : Hid (Mn K M w D w1 (kCall m a b)) := hN.pre HF0.out
    clear hN
    go_wp2_with fail
    (first | go_end0 | ((try simp only [Exit.inBlock, Exit.then]); refine bodyPost_ret (results_none rfl _ _ _) rfl ?_))
    exact ⟨rfl, HN.out⟩
  rw [if_neg k26] at hx
  by_cases k25 : k = 25
  · rw [if_pos k25] at hx
    subst k25
    have HX : Hid (kGo f { m with wt := wta } b = some m') := hx
    clear hx
    go_upto_region 6 with fail
    rw [← HW.out]
    obtain ⟨_, _, _, _, _, _, _, -, hbm⟩ := HH.out.cells
    obtain ⟨⟨-, -, -, -, -, -, -, -, -, -, -, -, d12, -⟩, hfm⟩ := mc17 hbm
    have g12 := hfm 12
    have hl2 := blk_lt hbm
    have b1 := blk_new w (.cells #[iV ka, iV na, .pointer oa1, iV pra, iV bda, .pointer oa2, .pointer oa3] 196)
    have b2 := blk_new (w.alloc (.cells #[iV ka, iV na, .pointer oa1, iV pra, iV bda, .pointer oa2, .pointer oa3] 196)) (.cells #[iV kb, iV nb, .pointer ob1, iV prb, iV bdb, .pointer ob2, .pointer ob3] 196)
    rw [show (w.alloc (.cells #[iV ka, iV na, .pointer oa1, iV pra, iV bda, .pointer oa2, .pointer oa3] 196)).heap.size = w.heap.size + 1 by simp] at b2
    have b3 := (Below.heap_alloc (w.alloc (.cells #[iV ka, iV na, .pointer oa1, iV pra, iV bda, .pointer oa2, .pointer oa3] 196)) (.cells #[iV kb, iV nb, .pointer ob1, iV prb, iV bdb, .pointer ob2, .pointer ob3] 196) w.heap.size (by simp)).trans b1
    rw [← HW.out] at b2 b3
    obtain ⟨⟨s0, s1, s2, s3, s4, s5, s6⟩, -⟩ := cells7 b3
    obtain ⟨⟨t0, t1, t2, t3, t4, t5, t6⟩, -⟩ := cells7 b2
    have sl := blk_lt b3
    have tl := blk_lt b2
    have HS := HH.out.setWt HWA.out
    have HSW : Hid (Mc K M (W.setCell ⟨M, 12, none⟩ (.pointer oa3)) { m with wt := wta } { D with wp := .pointer oa3 } ∧ Fr (fun b => b = M) W (W.setCell ⟨M, 12, none⟩ (.pointer oa3))) := HS
    have hMn : ¬ M = w.heap.size ∧ ¬ M = w.heap.size + 1 := by omega
    clear c12 f12 hl hbm hfm b1 b2 b3 HS
    go_wp2_with fail
    refine (goOn_c HSW.out.1 (HB.out.keep (HH.out.kpM HSW.out.2)) HX.out).mono ?_
    rintro r1 w1 ⟨rfl, hN⟩
    have HN : Hid (Mn K M w D w1 m') := (hN.step HSW.out.2 rfl).pre HF0.out
    clear hN
    go_wp2_with fail
    (first | go_end0 | ((try simp only [Exit.inBlock, Exit.then]); refine bodyPost_ret (results_none rfl _ _ _) rfl ?_))
    exact ⟨rfl, HN.out⟩
  rw [if_neg k25] at hx
  by_cases k7 : k = 7
  · rw [if_pos k7] at hx
    subst k7
    have HX : Hid (kGo f m (vPar (cP a b)) = some m') := hx
    clear hx
    go_wp2_with fail
    rw [← HW.out]
    have b1 := blk_new W (.cells #[iV ka, iV na, .pointer oa1, iV pra, iV bda, .pointer oa2, .pointer oa3, iV kb, iV nb, .pointer ob1, iV prb, iV bdb, .pointer ob2, .pointer ob3] 328)
    rw [show W.heap.size = w.heap.size + 1 + 1 by rw [HW.out]; simp] at b1
    have hFA : Fr (fun _ => False) W (W.alloc (.cells #[iV ka, iV na, .pointer oa1, iV pra, iV bda, .pointer oa2, .pointer oa3, iV kb, iV nb, .pointer ob1, iV prb, iV bdb, .pointer ob2, .pointer ob3] 328)) := (Fr.refl _ W).alloc _
    generalize W.alloc (.cells #[iV ka, iV na, .pointer oa1, iV pra, iV bda, .pointer oa2, .pointer oa3, iV kb, iV nb, .pointer ob1, iV prb, iV bdb, .pointer ob2, .pointer ob3] 328) = W2 at b1 hFA ⊢
    have hk2 : Kp W W2 := hFA.kp fun _ _ _ h => h.elim
    have HF2 : Hid (Fr (fun _ => False) w W2) := HF0.out.trans hFA (fun _ h => h.elim)
    have hP : Lies W2 (cP a b) 3 [pT (w.heap.size + 1 + 1)] := pa_in (A := vCells ka na (.pointer oa1) pra bda (.pointer oa2) (.pointer oa3)) (B := vCells kb nb (.pointer ob1) prb bdb (.pointer ob2) (.pointer ob3)) b1 (HA.out.keep hk2) (HB.out.keep hk2)
    refine (goOn_c (HH.out.fr hFA) (V := vCells 4 0 (pT (w.heap.size + 1 + 1)) 0 0 pN pN) (val_in hP nil1 nil2) HX.out).mono ?_
    rintro r1 w1 ⟨rfl, hN⟩
    have HN : Hid (Mn K M w D w1 m') := hN.pre HF2.out
    clear hN b1 hFA hk2 hP
    go_wp2_with fail
    (first | go_end0 | ((try simp only [Exit.inBlock, Exit.then]); refine bodyPost_ret (results_none rfl _ _ _) rfl ?_))
    exact ⟨rfl, HN.out⟩
  rw [if_neg k7] at hx
  by_cases k8 : k = 8
  · rw [if_pos k8] at hx
    subst k8
    have HX : Hid (kGo f m (vLst (cP a b)) = some m') := hx
    clear hx
    go_wp2_with fail
    rw [← HW.out]
    have b1 := blk_new W (.cells #[iV ka, iV na, .pointer oa1, iV pra, iV bda, .pointer oa2, .pointer oa3, iV kb, iV nb, .pointer ob1, iV prb, iV bdb, .pointer ob2, .pointer ob3] 328)
    rw [show W.heap.size = w.heap.size + 1 + 1 by rw [HW.out]; simp] at b1
    have hFA : Fr (fun _ => False) W (W.alloc (.cells #[iV ka, iV na, .pointer oa1, iV pra, iV bda, .pointer oa2, .pointer oa3, iV kb, iV nb, .pointer ob1, iV prb, iV bdb, .pointer ob2, .pointer ob3] 328)) := (Fr.refl _ W).alloc _
    generalize W.alloc (.cells #[iV ka, iV na, .pointer oa1, iV pra, iV bda, .pointer oa2, .pointer oa3, iV kb, iV nb, .pointer ob1, iV prb, iV bdb, .pointer ob2, .pointer ob3] 328) = W2 at b1 hFA ⊢
    have hk2 : Kp W W2 := hFA.kp fun _ _ _ h => h.elim
    have HF2 : Hid (Fr (fun _ => False) w W2) := HF0.out.trans hFA (fun _ h => h.elim)
    have hP : Lies W2 (cP a b) 3 [pT (w.heap.size + 1 + 1)] := pa_in (A := vCells ka na (.pointer oa1) pra bda (.pointer oa2) (.pointer oa3)) (B := vCells kb nb (.pointer ob1) prb bdb (.pointer ob2) (.pointer ob3)) b1 (HA.out.keep hk2) (HB.out.keep hk2)
    refine (goOn_c (HH.out.fr hFA) (V := vCells 3 0 (pT (w.heap.size + 1 + 1)) 0 0 pN pN) (val_in hP nil1 nil2) HX.out).mono ?_
    rintro r1 w1 ⟨rfl, hN⟩
    have HN : Hid (Mn K M w D w1 m') := hN.pre HF2.out
    clear hN b1 hFA hk2 hP
    go_wp2_with fail
    (first | go_end0 | ((try simp only [Exit.inBlock, Exit.then]); refine bodyPost_ret (results_none rfl _ _ _) rfl ?_))
    exact ⟨rfl, HN.out⟩
  rw [if_neg k8] at hx
  by_cases k16 : k = 16
  · rw [if_pos k16] at hx
    subst k16
    have HX : Hid (kTruth f m (decide (na = nb)) = some m') := hx
    clear hx
    go_wp2_with fail
    rw [← HW.out]
    rw [show (na == nb) = decide (na = nb) from rfl]
    refine (truth_c HH.out HX.out).mono ?_
    rintro r1 w1 ⟨rfl, hN⟩
    have HN : Hid (Mn K M w D w1 m') := hN.pre HF0.out
    clear hN
    go_wp2_with fail
    (first | go_end0 | ((try simp only [Exit.inBlock, Exit.then]); refine bodyPost_ret (results_none rfl _ _ _) rfl ?_))
    exact ⟨rfl, HN.out⟩
  rw [if_neg k16] at hx
  by_cases k17 : k = 17
  · rw [if_pos k17] at hx
    subst k17
    have HX : Hid (kTruth f m (decide (na < nb)) = some m') := hx
    clear hx
    go_wp2_with fail
    rw [← HW.out]
    refine (truth_c HH.out HX.out).mono ?_
    rintro r1 w1 ⟨rfl, hN⟩
    have HN : Hid (Mn K M w D w1 m') := hN.pre HF0.out
    clear hN
    go_wp2_with fail
    (first | go_end0 | ((try simp only [Exit.inBlock, Exit.then]); refine bodyPost_ret (results_none rfl _ _ _) rfl ?_))
    exact ⟨rfl, HN.out⟩
  rw [if_neg k17] at hx
  split at hx
  · cases hx
  rename_i h32
  have h32 := in32_and h32
  have HX : Hid _ := hx
  clear hx
  go_wp2_with fail
  rw [← HW.out]
  refine (compute_c HH.out h32.1 h32.2 HX.out).mono ?_
  rintro r1 w1 ⟨rfl, hN⟩
  have HN : Hid (Mn K M w D w1 m') := hN.pre HF0.out
  clear hN
  go_wp2_with fail
  (first | go_end0 | ((try simp only [Exit.inBlock, Exit.then]); refine bodyPost_ret (results_none rfl _ _ _) rfl ?_))
  exact ⟨rfl, HN.out⟩
end
end Go.Proofs.YtklimomeendajaaGreatDoor

/- machine: part. -/
namespace Go.Proofs.YtklimomeendajaaGreatDoor
open Go.RowKit

section
variable {K : MC} {M : Nat} {w w' : World} {m m' : MX} {D D' : MD} {f : Nat}

set_option maxHeartbeats 3200000 in
set_option maxRecDepth 100000 in
theorem part_c (h : Mc K M w m D) {i : Int} {b : Bool} {v1 s1 nx v : Code} {xw : Value} {V : List Value} (hw : Lies w (wMk i b v1 s1 nx) 2 [xw]) (hv : Lies w v 0 V) {e0 e1 e2 e3 e4 e5 : Int} {e6 e7 : Value}
    (hx : (if b then kBoth K.c.t f m e0 v1 v else some (kLook { m with wt := wMk i true v .skip nx } e4 s1)) = some m') :
    Calls Tryz.prog 153 #[pT M, .agg #[iV e0, iV e1, iV e2, iV e3, iV e4, iV e5, e6, e7], .agg V.toArray, xw] w fun e w' => e = .returned (.tuple #[]) ∧ Mn K M w D w' m' := by
  obtain ⟨kv, nv, pav, prv, bdv, sgv, wtv, pv, xv, yv, -, rfl, -⟩ := val_out hv
  obtain ⟨⟨o1, rfl⟩, ⟨o2, rfl⟩, o3, rfl⟩ := val_ptrs hv
  obtain ⟨g, ku, nu, pu, pru, bdu, qu, ru, ps, pn, rfl, hg, hv1, hs1, hn⟩ := wt_blk hw
  show Calls Tryz.prog 153 #[pT M, .agg #[iV e0, iV e1, iV e2, iV e3, iV e4, iV e5, e6, e7], .agg #[iV kv, iV nv, .pointer o1, iV prv, iV bdv, .pointer o2, .pointer o3], pT g] w _
  obtain ⟨W, hW⟩ : ∃ W, W = (w.alloc (.cells #[iV e0, iV e1, iV e2, iV e3, iV e4, iV e5, e6, e7] 162)).alloc (.cells #[iV kv, iV nv, .pointer o1, iV prv, iV bdv, .pointer o2, .pointer o3] 196) := ⟨_, rfl⟩
  have hF0 : Fr (fun _ => False) w W := by rw [hW]; exact (by repeat (first | with_reducible exact Fr.refl _ _ | (with_reducible refine Fr.drew ?_) | (with_reducible refine Fr.drewN ?_ _) | (with_reducible refine Fr.alloc ?_ _) | ((with_reducible refine Fr.setCell ?_ ?_ _); rotate_left; first | exact .inl rfl | exact .inr (Nat.le_refl _) | exact .inl (Nat.le_refl _) | (focus (left; simp; done)) | (focus (left; simp; omega)) | (focus (left; omega)) | (focus (right; simp; done)) | (focus (right; simp; omega)) | (focus (right; omega))) | exact Fr.refl _ _))
  have hk0 : Kp w W := hF0.kp fun _ _ _ h => h.elim
  have HF0 : Hid (Fr (fun _ => False) w W) := hF0
  have HVv : Hid (Lies W v 0 (vCells kv nv (.pointer o1) prv bdv (.pointer o2) (.pointer o3))) := hv.keep hk0
  have HV1 : Hid (Lies W v1 0 (vCells ku nu (.pointer pu) pru bdu (.pointer qu) (.pointer ru))) := hv1.keep hk0
  have HS1 : Hid (Lies W s1 1 [.pointer ps]) := hs1.keep hk0
  have HN1 : Hid (Lies W nx 2 [.pointer pn]) := hn.keep hk0
  have HH : Hid (Mc K M W m D) := h.fr hF0
  have hgW := (hF0.block g (blk_lt hg) id).trans hg
  have HW : Hid (W = (w.alloc (.cells #[iV e0, iV e1, iV e2, iV e3, iV e4, iV e5, e6, e7] 162)).alloc (.cells #[iV kv, iV nv, .pointer o1, iV prv, iV bdv, .pointer o2, .pointer o3] 196)) := hW
  have b1 := blk_new w (.cells #[iV e0, iV e1, iV e2, iV e3, iV e4, iV e5, e6, e7] 162)
  have b2 := blk_new (w.alloc (.cells #[iV e0, iV e1, iV e2, iV e3, iV e4, iV e5, e6, e7] 162)) (.cells #[iV kv, iV nv, .pointer o1, iV prv, iV bdv, .pointer o2, .pointer o3] 196)
  rw [show (w.alloc (.cells #[iV e0, iV e1, iV e2, iV e3, iV e4, iV e5, e6, e7] 162)).heap.size = w.heap.size + 1 by simp] at b2
  have b3 := (Below.heap_alloc (w.alloc (.cells #[iV e0, iV e1, iV e2, iV e3, iV e4, iV e5, e6, e7] 162)) (.cells #[iV kv, iV nv, .pointer o1, iV prv, iV bdv, .pointer o2, .pointer o3] 196) w.heap.size (by simp)).trans b1
  rw [← hW] at b2 b3
  have HBE : Hid (W.heap[w.heap.size]? = some (.cells #[iV e0, iV e1, iV e2, iV e3, iV e4, iV e5, e6, e7] 162 (0, 0))) := b3
  have HBV : Hid (W.heap[w.heap.size + 1]? = some (.cells #[iV kv, iV nv, .pointer o1, iV prv, iV bdv, .pointer o2, .pointer o3] 196 (0, 0))) := b2
  obtain ⟨z0, z1, z2, z3, z4, z5, z6, z7, z8, z9, z10⟩ := wt_cells hg
  have zl := blk_lt hg
  have hml : M < w.heap.size := blk_lt h.blk
  clear h hw hv hv1 hs1 hn hg hF0 hk0 hW b1 b2 b3
  go_enter Tryz.func153, Tryz.ntmps153
  cases b with
  | true =>
    rw [if_pos rfl] at hx
    have HX : Hid (kBoth K.c.t f m e0 v1 v = some m') := hx
    clear hx
    go_wp2_with fail
    rw [← HW.out]
    clear z0 z1 z2 z3 z4 z5 z6 z7 z8 z9 z10 zl
    obtain ⟨z0, z1, z2, z3, z4, z5, z6, z7, z8, z9, z10⟩ := wt_cells hgW
    have zl := blk_lt hgW
    obtain ⟨⟨s0, s1', s2, s3, s4, s5, s6⟩, -⟩ := cells7 HBV.out
    have sl := blk_lt HBV.out
    obtain ⟨t0, t1, t2, t3, t4, t5, t6, t7⟩ := cells8 HBE.out
    have tl := blk_lt HBE.out
    have HFd : Hid (Fr (fun _ => False) W W.drew) := by show Fr _ _ _; exact (by repeat (first | with_reducible exact Fr.refl _ _ | (with_reducible refine Fr.drew ?_) | (with_reducible refine Fr.drewN ?_ _) | (with_reducible refine Fr.alloc ?_ _) | ((with_reducible refine Fr.setCell ?_ ?_ _); rotate_left; first | exact .inl rfl | exact .inr (Nat.le_refl _) | exact .inl (Nat.le_refl _) | (focus (left; simp; done)) | (focus (left; simp; omega)) | (focus (left; omega)) | (focus (right; simp; done)) | (focus (right; simp; omega)) | (focus (right; omega))) | exact Fr.refl _ _))
    have HKd : Hid (Kp W W.drew) := HFd.out.kp fun _ _ _ h => h.elim
    clear hgW
    refine region_tail 8 mixed (by kernel_rfl) ?_
    simp only [List.take_succ_cons, List.take_zero, List.drop_succ_cons, List.drop_zero]
    repeat still_step
    refine wpStill_nil ?_
    go_wp2_with fail
    refine (both_c (HH.out.fr HFd.out) (HV1.out.keep HKd.out) (HVv.out.keep HKd.out) HX.out).mono ?_
    rintro r1 w1 ⟨rfl, hN⟩
    have HN : Hid (Mn K M w D w1 m') := (hN.pre HFd.out).pre HF0.out
    clear hN
    go_wp2_with fail
    (first | go_end0 | ((try simp only [Exit.inBlock, Exit.then]); refine bodyPost_ret (results_none rfl _ _ _) rfl ?_))
    exact ⟨rfl, HN.out⟩
  | false =>
    rw [if_neg (by decide)] at hx
    injection hx with hx
    have HX : Hid (kLook { m with wt := wMk i true v .skip nx } e4 s1 = m') := hx
    clear hx
    go_wp2_with fail
    rw [← HW.out]
    clear z0 z1 z2 z3 z4 z5 z6 z7 z8 z9 z10 zl
    obtain ⟨z0, z1, z2, z3, z4, z5, z6, z7, z8, z9, z10⟩ := wt_cells hgW
    have HG : Hid (W.heap[g]? = some (.cells #[iV i, .pointer ps, .bool false, iV ku, iV nu, .pointer pu, iV pru, iV bdu, .pointer qu, .pointer ru, .pointer pn] 250 (0, 0))) := hgW
    have zl := blk_lt hgW
    obtain ⟨⟨s0, s1', s2, s3, s4, s5, s6⟩, -⟩ := cells7 HBV.out
    have sl := blk_lt HBV.out
    obtain ⟨t0, t1, t2, t3, t4, t5, t6, t7⟩ := cells8 HBE.out
    have tl := blk_lt HBE.out
    obtain ⟨ck, cn, cp, cpr, cbd, cq, cr, hDV, hbm⟩ := HH.out.cells
    obtain ⟨⟨-, -, -, -, -, -, -, -, -, -, -, -, c12, -⟩, hfm⟩ := mc17 hbm
    have f12 := hfm 12
    have ml := blk_lt hbm
    have HBM : Hid (W.heap[M]? = some (.cells #[pT K.cb, D.iv, .bool m.lk, iV m.ex, D.sp, iV ck, iV cn, cp, iV cpr, iV cbd, cq, cr, D.wp, iV m.st, .string (bz m.tx), D.pv, iV m.jm] 198 (0, 0))) := hbm
    have HDV : Hid (D.V = vCells ck cn cp cpr cbd cq cr) := hDV
    clear hgW hbm hfm hDV
    go_region
    have gB := blk_set (i := 12) (v := pT W.heap.size) (c' := #[pT K.cb, D.iv, .bool m.lk, iV m.ex, D.sp, iV ck, iV cn, cp, iV cpr, iV cbd, cq, cr, pT W.heap.size, iV m.st, .string (bz m.tx), D.pv, iV m.jm]) HBM.out rfl
    have d1 := blk_new (W.setCell ⟨M, 12, none⟩ (pT W.heap.size)) (.cells #[iV i, pN, .bool true, iV kv, iV nv, .pointer o1, iV prv, iV bdv, .pointer o2, .pointer o3, .pointer pn] 250)
    rw [show (W.setCell ⟨M, 12, none⟩ (pT W.heap.size)).heap.size = W.heap.size by simp] at d1
    have d2 := (Below.heap_alloc (W.setCell ⟨M, 12, none⟩ (pT W.heap.size)) (.cells #[iV i, pN, .bool true, iV kv, iV nv, .pointer o1, iV prv, iV bdv, .pointer o2, .pointer o3, .pointer pn] 250) M (by simp; omega)).trans gB
    have hFX : Fr (fun b => b = M) W ((W.setCell ⟨M, 12, none⟩ (pT W.heap.size)).alloc (.cells #[iV i, pN, .bool true, iV kv, iV nv, .pointer o1, iV prv, iV bdv, .pointer o2, .pointer o3, .pointer pn] 250)).drew := (by repeat (first | with_reducible exact Fr.refl _ _ | (with_reducible refine Fr.drew ?_) | (with_reducible refine Fr.drewN ?_ _) | (with_reducible refine Fr.alloc ?_ _) | ((with_reducible refine Fr.setCell ?_ ?_ _); rotate_left; first | exact .inl rfl | exact .inr (Nat.le_refl _) | exact .inl (Nat.le_refl _) | (focus (left; simp; done)) | (focus (left; simp; omega)) | (focus (left; omega)) | (focus (right; simp; done)) | (focus (right; simp; omega)) | (focus (right; omega))) | exact Fr.refl _ _))
    have d1' : ((W.setCell ⟨M, 12, none⟩ (pT W.heap.size)).alloc (.cells #[iV i, pN, .bool true, iV kv, iV nv, .pointer o1, iV prv, iV bdv, .pointer o2, .pointer o3, .pointer pn] 250)).drew.heap[W.heap.size]? = _ := d1
    have d2' : ((W.setCell ⟨M, 12, none⟩ (pT W.heap.size)).alloc (.cells #[iV i, pN, .bool true, iV kv, iV nv, .pointer o1, iV prv, iV bdv, .pointer o2, .pointer o3, .pointer pn] 250)).drew.heap[M]? = _ := d2
    clear d1 d2 gB
    generalize ((W.setCell ⟨M, 12, none⟩ (pT W.heap.size)).alloc (.cells #[iV i, pN, .bool true, iV kv, iV nv, .pointer o1, iV prv, iV bdv, .pointer o2, .pointer o3, .pointer pn] 250)).drew = X at d1' d2' hFX ⊢
    have hk := HH.out.kpM hFX
    have hWt : Lies X (wMk i true v .skip nx) 2 [pT W.heap.size] := wt_in (V := vCells kv nv (.pointer o1) prv bdv (.pointer o2) (.pointer o3)) d1' (HVv.out.keep hk) nil1 (HN1.out.keep hk)
    have HM : Hid (Mc K M X { m with wt := wMk i true v .skip nx } { D with wp := pT W.heap.size }) := HH.out.upd hFX (by unfold mCells; simp only [HDV.out]; exact d2') rfl rfl HH.out.inp HH.out.ip (HH.out.sg.keep hk) (HH.out.val.keep hk) hWt
    have HFX : Hid (Fr (fun b => b = M) W X) := hFX
    have HSX : Hid (Lies X s1 1 [.pointer ps]) := HS1.out.keep hk
    have hgX := (hFX.block g (blk_lt HG.out) (fun e => by subst e; exact absurd (ty_eq HG.out HBM.out) (by decide))).trans HG.out
    have heX := (hFX.block _ (blk_lt HBE.out) (by omega)).trans HBE.out
    clear z0 z1 z2 z3 z4 z5 z6 z7 z8 z9 z10 zl s0 s1' s2 s3 s4 s5 s6 sl t0 t1 t2 t3 t4 t5 t6 t7 tl c12 f12 ml
    obtain ⟨z0, z1, z2, z3, z4, z5, z6, z7, z8, z9, z10⟩ := wt_cells hgX
    have zl := blk_lt hgX
    obtain ⟨t0, t1, t2, t3, t4, t5, t6, t7⟩ := cells8 heX
    have tl := blk_lt heX
    have HFd : Hid (Fr (fun _ => False) X X.drew) := by show Fr _ _ _; exact (by repeat (first | with_reducible exact Fr.refl _ _ | (with_reducible refine Fr.drew ?_) | (with_reducible refine Fr.drewN ?_ _) | (with_reducible refine Fr.alloc ?_ _) | ((with_reducible refine Fr.setCell ?_ ?_ _); rotate_left; first | exact .inl rfl | exact .inr (Nat.le_refl _) | exact .inl (Nat.le_refl _) | (focus (left; simp; done)) | (focus (left; simp; omega)) | (focus (left; omega)) | (focus (right; simp; done)) | (focus (right; simp; omega)) | (focus (right; omega))) | exact Fr.refl _ _))
    clear d1' d2' hk hWt hFX hgX heX
    go_wp2_with fail
    refine region_tail 7 mixed (by kernel_rfl) ?_
    simp only [List.take_succ_cons, List.take_zero, List.drop_succ_cons, List.drop_zero]
    repeat still_step
    refine wpStill_nil ?_
    go_wp2_with fail
    refine (lookAt_c (HM.out.fr HFd.out) (HSX.out.keep (HFd.out.kp fun _ _ _ h => h.elim))).mono ?_
    rintro r1 w1 ⟨rfl, hN⟩
    have HN : Hid (Mn K M w D w1 m') := by
      show Mn _ _ _ _ _ _
      rw [← HX.out]
      exact ((hN.pre HFd.out).step HFX.out rfl).pre HF0.out
    clear hN
    go_wp2_with fail
    (first | go_end0 | ((try simp only [Exit.inBlock, Exit.then]); refine bodyPost_ret (results_none rfl _ _ _) rfl ?_))
    exact ⟨rfl, HN.out⟩
end
end Go.Proofs.YtklimomeendajaaGreatDoor
