import Derived.Test.YtklimomeendajaaGreatDoorMC6
import Derived.Test.YtklimomeendajaaGreatDoorMB9
set_option linter.unusedVariables false
set_option linter.unusedSimpArgs false
/- machine: fit, fitParts. -/
namespace Go.Proofs.YtklimomeendajaaGreatDoor
open Go.RowKit

def FOk (K : MC) (M : Nat) (m : MX) (D : MD) (n : Nat) : Prop := ∀ (i : Int) (v sg : Code) (r : Option Code), kFit K.c.t n i v sg = some r → ∀ (w : World) (V : List Value) (x : Value), Mc K M w m D → Lies w v 0 V → Lies w sg 1 [x] →
  Calls Tryz.prog 214 #[pT M, iV i, .agg V.toArray, x] w fun e w' => Fr (fun _ => False) w w' ∧ ∃ p, e = .returned (.tuple #[.pointer p, .bool r.isSome]) ∧ ∀ c, r = some c → Lies w' c 1 [.pointer p]

section
variable {K : MC} {M : Nat} {w w' : World} {m m' : MX} {D D' : MD} {f : Nat}

/-- A pattern of the code, as it lies. -/
theorem Mc.pt (h : Mc K M w m D) {i : Int} {pk nu bi p1 p2 : Int} (he : patAt K.c.t i = some ⟨pk, nu, bi, p1, p2⟩) : ∃ (pg pcap j : Nat), i = (j : Int) ∧ ((j : Int) < (K.c.t.pats.length : Int) ∧ pg < w.heap.size ∧ K.cb < w.heap.size ∧ w.cell? ⟨K.cb, 1, none⟩ = some (.slice (some ⟨pg, 0, none⟩) K.c.t.pats.length pcap)) ∧
    (w.cell? ⟨pg, j * 5, none⟩ = some (iV pk) ∧ w.cell? ⟨pg, j * 5 + 1, none⟩ = some (iV nu) ∧ w.cell? ⟨pg, j * 5 + 2, none⟩ = some (iV bi) ∧ w.cell? ⟨pg, j * 5 + 3, none⟩ = some (iV p1) ∧ w.cell? ⟨pg, j * 5 + 4, none⟩ = some (iV p2)) := by
  unfold patAt at he
  split at he
  case isFalse => cases he
  case isTrue h0 =>
  obtain ⟨hlt, he⟩ := List.getElem?_eq_some_iff.1 he
  have hc := (mc6 h.cd.blk).2.1
  have hr := h.cd.tr.p
  rcases hr.2 with ⟨_, h0⟩ | ⟨g, cap, cur, hp, hg⟩
  · omega
  · have hcs := patCells_at K.c.t.pats i.toNat hlt
    rw [he] at hcs
    rw [hp] at hc hr
    have hcell : ∀ j v, (patCells K.c.t.pats)[j]? = some v → j < K.c.t.pats.length * 5 → w.cell? ⟨g, j, none⟩ = some v := fun j v hj hlt' => by rw [World.ownsRow.cellAt hr _ hlt']; exact hj
    exact ⟨g, cap, i.toNat, by omega, ⟨by omega, (hr.lt g rfl).2, blk_lt h.cd.blk, hc⟩, hcell _ _ hcs.1 (by omega), hcell _ _ hcs.2.1 (by omega), hcell _ _ hcs.2.2.1 (by omega), hcell _ _ hcs.2.2.2.1 (by omega), hcell _ _ hcs.2.2.2.2 (by omega)⟩

/-- The parts: first the first, then the second. -/
def kParts (t : RS) (n : Nat) (p1 p2 : Int) (pa sg : Code) : Option (Option Code) :=
  if isC pa then (kFit t n p1 (fstC pa) sg).bind fun x => (match x with
      | none => some none
      | some sg' => kFit t n p2 (sndC pa) sg') else some none

set_option maxHeartbeats 3200000 in
set_option maxRecDepth 100000 in
theorem fitParts_c {n : Nat} (ih : FOk K M m D n) (h : Mc K M w m D) {pk nu bi p1 p2 : Int} {v sg : Code} {V : List Value} {x : Value} (hv : Lies w v 0 V) (hs : Lies w sg 1 [x]) {r : Option Code} (hx : kParts K.c.t n p1 p2 (vParts v) sg = some r) :
    Calls Tryz.prog 241 #[pT M, .agg #[iV pk, iV nu, iV bi, iV p1, iV p2], .agg V.toArray, x] w fun e w' => Fr (fun _ => False) w w' ∧ ∃ p, e = .returned (.tuple #[.pointer p, .bool r.isSome]) ∧ ∀ c, r = some c → Lies w' c 1 [.pointer p] := by
  obtain ⟨kv, nv, pav, prv, bdv, sgv, wtv, pv, xv, yv, hve, rfl, hpa, -, -⟩ := val_out hv
  have hvp : vParts v = pav := by rw [hve]; rfl
  rw [hvp] at hx
  obtain ⟨ox, rfl⟩ := ptr_of hs (.inl rfl)
  show Calls Tryz.prog 241 #[pT M, .agg #[iV pk, iV nu, iV bi, iV p1, iV p2], .agg #[iV kv, iV nv, pv, iV prv, iV bdv, xv, yv], .pointer ox] w _
  unfold kParts at hx
  rcases pa_out hpa with ⟨rfl, rfl⟩ | ⟨a, b, _, _, gg, rfl, -⟩
  · rw [if_neg (by simp [isC])] at hx
    injection hx with hx
    subst hx
    clear h hv hs hpa
    go_enter Tryz.func241, Tryz.ntmps241
    go_wp2_with fail
    go_ret2
    exact ⟨(by repeat (first | with_reducible exact Fr.refl _ _ | (with_reducible refine Fr.drew ?_) | (with_reducible refine Fr.drewN ?_ _) | (with_reducible refine Fr.alloc ?_ _) | ((with_reducible refine Fr.setCell ?_ ?_ _); rotate_left; first | exact .inl rfl | exact .inr (Nat.le_refl _) | exact .inl (Nat.le_refl _) | (focus (left; simp; done)) | (focus (left; simp; omega)) | (focus (left; omega)) | (focus (right; simp; done)) | (focus (right; simp; omega)) | (focus (right; omega))) | exact Fr.refl _ _)), none, rfl, fun c h => by cases h⟩
  · rw [if_pos (show isC (cP a b) = true from rfl)] at hx
    obtain ⟨g, ka, na, pa, pra, bda, sa, ta, kb, nb, pb, prb, bdb, sb, tb, rfl, ha, hb, hg⟩ := parts_out hpa
    obtain ⟨r1, hr1, hx⟩ := bindO hx
    have HR1 : Hid (kFit K.c.t n p1 a sg = some r1) := hr1
    obtain ⟨W, hW⟩ : ∃ W, W = (w.alloc (.cells #[iV pk, iV nu, iV bi, iV p1, iV p2] 315)).alloc (.cells #[iV kv, iV nv, pT g, iV prv, iV bdv, xv, yv] 196) := ⟨_, rfl⟩
    have hF0 : Fr (fun _ => False) w W := by rw [hW]; exact (by repeat (first | with_reducible exact Fr.refl _ _ | (with_reducible refine Fr.drew ?_) | (with_reducible refine Fr.drewN ?_ _) | (with_reducible refine Fr.alloc ?_ _) | ((with_reducible refine Fr.setCell ?_ ?_ _); rotate_left; first | exact .inl rfl | exact .inr (Nat.le_refl _) | exact .inl (Nat.le_refl _) | (focus (left; simp; done)) | (focus (left; simp; omega)) | (focus (left; omega)) | (focus (right; simp; done)) | (focus (right; simp; omega)) | (focus (right; omega))) | exact Fr.refl _ _))
    have hk0 : Kp w W := hF0.kp fun _ _ _ h => h.elim
    have hgW : W.heap[g]? = some (.cells #[iV ka, iV na, pa, iV pra, iV bda, sa, ta, iV kb, iV nb, pb, iV prb, iV bdb, sb, tb] 328 (0, 0)) := (hF0.block g (blk_lt hg) id).trans hg
    have HG : Hid (W.heap[g]? = some (.cells #[iV ka, iV na, pa, iV pra, iV bda, sa, ta, iV kb, iV nb, pb, iV prb, iV bdb, sb, tb] 328 (0, 0))) := hgW
    have HA : Hid (Lies W a 0 (vCells ka na pa pra bda sa ta)) := ha.keep hk0
    have HB : Hid (Lies W b 0 (vCells kb nb pb prb bdb sb tb)) := hb.keep hk0
    have HS : Hid (Lies W sg 1 [.pointer ox]) := hs.keep hk0
    have HH : Hid (Mc K M W m D) := h.fr hF0
    have HF0 : Hid (Fr (fun _ => False) w W) := hF0
    have HW : Hid (W = (w.alloc (.cells #[iV pk, iV nu, iV bi, iV p1, iV p2] 315)).alloc (.cells #[iV kv, iV nv, pT g, iV prv, iV bdv, xv, yv] 196)) := hW
    obtain ⟨z0, z1, z2, z3, z4, z5, z6, z7, z8, z9, z10, z11, z12, z13⟩ := pa_cells hg
    have zl := blk_lt hg
    have b1 := blk_new w (.cells #[iV pk, iV nu, iV bi, iV p1, iV p2] 315)
    have b2 := blk_new (w.alloc (.cells #[iV pk, iV nu, iV bi, iV p1, iV p2] 315)) (.cells #[iV kv, iV nv, pT g, iV prv, iV bdv, xv, yv] 196)
    rw [show (w.alloc (.cells #[iV pk, iV nu, iV bi, iV p1, iV p2] 315)).heap.size = w.heap.size + 1 by simp] at b2
    have b3 := (Below.heap_alloc (w.alloc (.cells #[iV pk, iV nu, iV bi, iV p1, iV p2] 315)) (.cells #[iV kv, iV nv, pT g, iV prv, iV bdv, xv, yv] 196) w.heap.size (by simp)).trans b1
    rw [← hW] at b2 b3
    have HBP : Hid (W.heap[w.heap.size]? = some (.cells #[iV pk, iV nu, iV bi, iV p1, iV p2] 315 (0, 0))) := b3
    have HBV : Hid (W.heap[w.heap.size + 1]? = some (.cells #[iV kv, iV nv, pT g, iV prv, iV bdv, xv, yv] 196 (0, 0))) := b2
    clear h hv hs hpa ha hb hg hgW hr1 hk0 hF0 hW b1 b2 b3 hvp
    go_enter Tryz.func241, Tryz.ntmps241
    go_wp2_with fail
    rw [← HW.out]
    clear z0 z1 z2 z3 z4 z5 z6 z7 z8 z9 z10 z11 z12 z13 zl
    obtain ⟨z0, z1, z2, z3, z4, z5, z6, z7, z8, z9, z10, z11, z12, z13⟩ := pa_cells HG.out
    have zl := blk_lt HG.out
    obtain ⟨⟨s0, s1, s2, s3, s4, s5, s6⟩, -⟩ := cells7 HBV.out
    have sl := blk_lt HBV.out
    obtain ⟨t0, t1, t2, t3, t4⟩ := cells5 HBP.out
    have tl := blk_lt HBP.out
    have HFd : Hid (Fr (fun _ => False) W W.drew) := by show Fr _ _ _; exact (by repeat (first | with_reducible exact Fr.refl _ _ | (with_reducible refine Fr.drew ?_) | (with_reducible refine Fr.drewN ?_ _) | (with_reducible refine Fr.alloc ?_ _) | ((with_reducible refine Fr.setCell ?_ ?_ _); rotate_left; first | exact .inl rfl | exact .inr (Nat.le_refl _) | exact .inl (Nat.le_refl _) | (focus (left; simp; done)) | (focus (left; simp; omega)) | (focus (left; omega)) | (focus (right; simp; done)) | (focus (right; simp; omega)) | (focus (right; omega))) | exact Fr.refl _ _))
    have HKd : Hid (Kp W W.drew) := HFd.out.kp fun _ _ _ h => h.elim
    go_region_law (rw [if_pos (by simp [Region.wanted])]; unfold Oper.wp; go_simp; go_at_call 214; refine (ih p1 a sg r1 HR1.out W.drew _ _ (HH.out.fr HFd.out) (HA.out.keep HKd.out) (HS.out.keep HKd.out)).mono ?_; rintro e1 w1 ⟨hF1, q1, rfl, hq1⟩)
    all_goals
     clear s0 s1 s2 s3 s4 s5 s6 sl t0 t1 t2 t3 t4 tl
     have hFW1 : Fr (fun _ => False) W w1 := HFd.out.trans hF1 (fun _ h => h.elim)
     have HF1 : Hid (Fr (fun _ => False) w w1) := HF0.out.trans hFW1 (fun _ h => h.elim)
     have hg1 := (hFW1.block g (blk_lt HG.out) id).trans HG.out
     have hp1 := (hFW1.block _ (blk_lt HBP.out) id).trans HBP.out
     have hv1 := (hFW1.block _ (blk_lt HBV.out) id).trans HBV.out
     clear z0 z1 z2 z3 z4 z5 z6 z7 z8 z9 z10 z11 z12 z13 zl
     obtain ⟨z0, z1, z2, z3, z4, z5, z6, z7, z8, z9, z10, z11, z12, z13⟩ := pa_cells hg1
     have zl := blk_lt hg1
     obtain ⟨⟨s0, s1, s2, s3, s4, s5, s6⟩, -⟩ := cells7 hv1
     have sl := blk_lt hv1
     obtain ⟨t0, t1, t2, t3, t4⟩ := cells5 hp1
     have tl := blk_lt hp1
     have HB1 : Hid (Lies w1 b 0 (vCells kb nb pb prb bdb sb tb)) := HB.out.keep (hFW1.kp fun _ _ _ h => h.elim)
     have HH1 : Hid (Mc K M w1 m D) := HH.out.fr hFW1
     have HQ1 : Hid (∀ c, r1 = some c → Lies w1 c 1 [.pointer q1]) := hq1
     clear hF1 hFW1 hg1 hp1 hv1 hq1
     cases r1 with
     | none =>
       simp only at hx
       injection hx with hx
       subst hx
       go_wp2_with fail
       go_ret2
       exact ⟨HF1.out, none, rfl, fun c h => by cases h⟩
     | some sg1 =>
       simp only at hx
       have HX : Hid (kFit K.c.t n p2 b sg1 = some r) := hx
       clear hx
       go_wp2_with fail
       have HFd1 : Hid (Fr (fun _ => False) w1 w1.drew) := by show Fr _ _ _; exact (by repeat (first | with_reducible exact Fr.refl _ _ | (with_reducible refine Fr.drew ?_) | (with_reducible refine Fr.drewN ?_ _) | (with_reducible refine Fr.alloc ?_ _) | ((with_reducible refine Fr.setCell ?_ ?_ _); rotate_left; first | exact .inl rfl | exact .inr (Nat.le_refl _) | exact .inl (Nat.le_refl _) | (focus (left; simp; done)) | (focus (left; simp; omega)) | (focus (left; omega)) | (focus (right; simp; done)) | (focus (right; simp; omega)) | (focus (right; omega))) | exact Fr.refl _ _))
       have HKd1 : Hid (Kp w1 w1.drew) := HFd1.out.kp fun _ _ _ h => h.elim
       go_region_law (rw [if_pos (by simp [Region.wanted])]; unfold Oper.wp; go_simp; go_at_call 214; refine (ih p2 b sg1 r HX.out w1.drew _ _ (HH1.out.fr HFd1.out) (HB1.out.keep HKd1.out) ((HQ1.out _ rfl).keep HKd1.out)).mono ?_; rintro e2 w2 ⟨hF2, q2, rfl, hq2⟩)
       all_goals
        have HF2 : Hid (Fr (fun _ => False) w w2) := (HF1.out.trans HFd1.out (fun _ h => h.elim)).trans hF2 (fun _ h => h.elim)
        have HQ2 : Hid (∀ c, r = some c → Lies w2 c 1 [.pointer q2]) := hq2
        clear hF2 hq2
        go_wp2_with fail
        go_ret2
        exact ⟨HF2.out, q2, rfl, HQ2.out⟩
end
end Go.Proofs.YtklimomeendajaaGreatDoor
