import Derived.BigRegion
import Derived.Test.YtklimomeendajaaGreatDoorMD0
import Derived.Test.YtklimomeendajaaGreatDoorMC8
import Derived.Test.YtklimomeendajaaGreatDoorMD1
set_option linter.unusedVariables false
set_option linter.unusedSimpArgs false
/- machine: comeBack. -/
namespace Go.Proofs.YtklimomeendajaaGreatDoor
open Go.RowKit

section
variable {K : MC} {M : Nat} {w w' : World} {m m' : MX} {D D' : MD} {nu bi e1 e2 e3 : Int} {fs : List (Int × Int × Int)} {am : List (Int × Int)} {f : Nat} {i : Int} {b : Bool} {v1 s1 nx : Code}

set_option maxHeartbeats 3200000 in
set_option maxRecDepth 100000 in
theorem back_22 (h : Mc K M w m D) {n0 : Int} (hwt : m.wt = wMk i b v1 s1 nx) (he : expAt K.c.t i = some ⟨22, nu, bi, e1, e2, e3, fs, am⟩) (hn0 : vN m.val = n0) (hx : kRaise K.c.t { m with wt := nx } n0 nx = some m') :
    Calls Tryz.prog 92 #[pT M] w fun e w' => e = .returned (.tuple #[]) ∧ Mn K M w D w' m' := by
  have hlw := h.wt
  rw [hwt] at hlw
  obtain ⟨g, ku, nu', pu, pru, bdu, qu, ru, ps, pn, hwp, hg, hv1, hs1, hn⟩ := wt_blk hlw
  obtain ⟨k, n, p, pr, bd, q, r, hV, hb⟩ := h.cells
  have hval := h.val
  rw [hV] at hval
  obtain ⟨⟨o1, rfl⟩, ⟨o2, rfl⟩, o3, rfl⟩ := val_ptrs hval
  obtain ⟨⟨c0, c1, c2, c3, c4, c5, c6, c7, c8, c9, c10, c11, c12, c13, c14, c15, c16⟩, hf⟩ := mc17 hb
  have f12 := hf 12
  have hl := blk_lt hb
  rw [hwp] at c12
  obtain ⟨z0, z1, z2, z3, z4, z5, z6, z7, z8, z9, z10⟩ := wt_cells hg
  have zl := blk_lt hg
  obtain ⟨hMS, hFS⟩ := h.setWt hn
  have HX : Hid (kRaise K.c.t { m with wt := nx } n0 nx = some m') := hx
  have HE : Hid (expAt K.c.t i = some ⟨22, nu, bi, e1, e2, e3, fs, am⟩) := he
  obtain ⟨W, hW⟩ : ∃ W, W = (w.setCell ⟨M, 12, none⟩ (.pointer pn)).alloc (.cells #[iV k, iV n, .pointer o1, iV pr, iV bd, .pointer o2, .pointer o3] 196) := ⟨_, rfl⟩
  have hFA : Fr (fun _ => False) (w.setCell ⟨M, 12, none⟩ (.pointer pn)) W := by rw [hW]; exact (Fr.refl _ _).alloc _
  have hFW : Fr (fun b => b = M) w W := hFS.trans hFA (fun _ h => h.elim)
  have hkW := h.kpM hFW
  have HFW : Hid (Fr (fun b => b = M) w W) := hFW
  have HW : Hid (W = (w.setCell ⟨M, 12, none⟩ (.pointer pn)).alloc (.cells #[iV k, iV n, .pointer o1, iV pr, iV bd, .pointer o2, .pointer o3] 196)) := hW
  have HM : Hid (Mc K M W { m with wt := nx } { D with wp := .pointer pn }) := hMS.fr hFA
  have HVv : Hid (Lies W m.val 0 (vCells k n (.pointer o1) pr bd (.pointer o2) (.pointer o3))) := hval.keep hkW
  have HV1 : Hid (Lies W v1 0 (vCells ku nu' (.pointer pu) pru bdu (.pointer qu) (.pointer ru))) := hv1.keep hkW
  have HS1 : Hid (Lies W s1 1 [.pointer ps]) := hs1.keep hkW
  have HN1 : Hid (Lies W nx 2 [.pointer pn]) := hn.keep hkW
  have HLW : Hid (Lies W (wMk i b v1 s1 nx) 2 [pT g]) := by show Lies _ _ _ _; rw [← hwp]; exact hlw.keep hkW
  have HG : Hid (W.heap[g]? = some (.cells #[iV i, .pointer ps, .bool b, iV ku, iV nu', .pointer pu, iV pru, iV bdu, .pointer qu, .pointer ru, .pointer pn] 250 (0, 0))) := (hFW.block g (blk_lt hg) (fun e => by subst e; exact absurd (ty_eq hg hb) (by decide))).trans hg
  have b1 := blk_new (w.setCell ⟨M, 12, none⟩ (.pointer pn)) (.cells #[iV k, iV n, .pointer o1, iV pr, iV bd, .pointer o2, .pointer o3] 196)
  rw [show (w.setCell ⟨M, 12, none⟩ (.pointer pn)).heap.size = w.heap.size by simp, ← hW] at b1
  have HBV : Hid (W.heap[w.heap.size]? = some (.cells #[iV k, iV n, .pointer o1, iV pr, iV bd, .pointer o2, .pointer o3] 196 (0, 0))) := b1
  clear h hwt he hx hlw hval hg hv1 hs1 hn hV hb hf hMS hFS hW hFA hFW hkW b1 hwp
  go_enter Tryz.func92, Tryz.ntmps92
  go_upto_region 3 with fail
  rw [← HW.out]
  clear c0 c1 c2 c3 c4 c5 c6 c7 c8 c9 c10 c11 c12 c13 c14 c15 c16 f12 hl z0 z1 z2 z3 z4 z5 z6 z7 z8 z9 z10 zl
  obtain ⟨z0, z1, z2, z3, z4, z5, z6, z7, z8, z9, z10⟩ := wt_cells HG.out
  have zl := blk_lt HG.out
  obtain ⟨_, _, _, _, _, _, _, -, hb⟩ := HM.out.cells
  obtain ⟨⟨c0, -⟩, -⟩ := mc17 hb
  have hl := blk_lt hb
  obtain ⟨eg, ecap, j, fa, aa, fc, ac, hij, ⟨hj1, hj2, hj3, hj4, hj5⟩, ⟨x0, x1, x2, x3, x4, x5, x6, x7⟩, -, hAr⟩ := HM.out.ex HE.out
  have HIJ : Hid (i = (j : Int)) := hij
  rw [hij] at z0
  have HAr : Hid (W.ownsRow 0 264 2 (.slice aa am.length ac) am.length (armCells am)) := hAr
  clear hb hij hAr
  go_region
  have hFX : Fr (fun _ => False) W (W.alloc (.cells #[iV 22, iV nu, iV bi, iV e1, iV e2, iV e3, .slice fa fs.length fc, .slice aa am.length ac] 162)).drew := (by repeat (first | with_reducible exact Fr.refl _ _ | (with_reducible refine Fr.drew ?_) | (with_reducible refine Fr.drewN ?_ _) | (with_reducible refine Fr.alloc ?_ _) | ((with_reducible refine Fr.setCell ?_ ?_ _); rotate_left; first | exact .inl rfl | exact .inr (Nat.le_refl _) | exact .inl (Nat.le_refl _) | (focus (left; simp; done)) | (focus (left; simp; omega)) | (focus (left; omega)) | (focus (right; simp; done)) | (focus (right; simp; omega)) | (focus (right; omega))) | exact Fr.refl _ _))
  have e1' : (W.alloc (.cells #[iV 22, iV nu, iV bi, iV e1, iV e2, iV e3, .slice fa fs.length fc, .slice aa am.length ac] 162)).drew.heap[W.heap.size]? = some (.cells #[iV 22, iV nu, iV bi, iV e1, iV e2, iV e3, .slice fa fs.length fc, .slice aa am.length ac] 162 (0, 0)) := blk_new W _
  generalize (W.alloc (.cells #[iV 22, iV nu, iV bi, iV e1, iV e2, iV e3, .slice fa fs.length fc, .slice aa am.length ac] 162)).drew = X at hFX e1' ⊢
  have hkX : Kp W X := hFX.kp fun _ _ _ h => h.elim
  have HFX : Hid (Fr (fun _ => False) W X) := hFX
  have HMX : Hid (Mc K M X { m with wt := nx } { D with wp := .pointer pn }) := HM.out.fr hFX
  have HVX : Hid (Lies X m.val 0 (vCells k n (.pointer o1) pr bd (.pointer o2) (.pointer o3))) := HVv.out.keep hkX
  have HSX : Hid (Lies X s1 1 [.pointer ps]) := HS1.out.keep hkX
  have HNX : Hid (Lies X nx 2 [.pointer pn]) := HN1.out.keep hkX
  have HLX : Hid (Lies X (wMk i b v1 s1 nx) 2 [pT g]) := HLW.out.keep hkX
  have HArX : Hid (X.ownsRow 0 264 2 (.slice aa am.length ac) am.length (armCells am)) := rowKeep hFX HAr.out (fun _ _ h => h)
  have hgX := (hFX.block g (blk_lt HG.out) id).trans HG.out
  have hvX := (hFX.block _ (blk_lt HBV.out) id).trans HBV.out
  have HBVX : Hid (X.heap[w.heap.size]? = some (.cells #[iV k, iV n, .pointer o1, iV pr, iV bd, .pointer o2, .pointer o3] 196 (0, 0))) := hvX
  clear z0 z1 z2 z3 z4 z5 z6 z7 z8 z9 z10 zl c0 hl hj1 hj2 hj3 hj4 hj5 x0 x1 x2 x3 x4 x5 x6 x7
  obtain ⟨z0, z1, z2, z3, z4, z5, z6, z7, z8, z9, z10⟩ := wt_cells hgX
  have zl := blk_lt hgX
  obtain ⟨⟨s0, s1', s2, s3, s4, s5, s6⟩, -⟩ := cells7 hvX
  have sl := blk_lt hvX
  obtain ⟨t0, t1, t2, t3, t4, t5, t6, t7⟩ := cells8 e1'
  have tl := blk_lt e1'
  obtain ⟨ck, cn, cp, cpr, cbd, cq, cr, hDV, hbX⟩ := HMX.out.cells
  have HBX : Hid _ := hbX
  have HDV : Hid _ := hDV
  obtain ⟨⟨c0, c1, c2, c3, c4, c5, c6, c7, c8, c9, c10, c11, c12, c13, c14, c15, c16⟩, hfX⟩ := mc17 hbX
  have f15 := hfX 15
  have hl := blk_lt hbX
  have HFd : Hid (Fr (fun _ => False) X X.drew) := by show Fr _ _ _; exact (by repeat (first | with_reducible exact Fr.refl _ _ | (with_reducible refine Fr.drew ?_) | (with_reducible refine Fr.drewN ?_ _) | (with_reducible refine Fr.alloc ?_ _) | ((with_reducible refine Fr.setCell ?_ ?_ _); rotate_left; first | exact .inl rfl | exact .inr (Nat.le_refl _) | exact .inl (Nat.le_refl _) | (focus (left; simp; done)) | (focus (left; simp; omega)) | (focus (left; omega)) | (focus (right; simp; done)) | (focus (right; simp; omega)) | (focus (right; omega))) | exact Fr.refl _ _))
  have HKd : Hid (Kp X X.drew) := HFd.out.kp fun _ _ _ h => h.elim
  clear hgX hvX hFX hkX e1' hbX hfX hDV c1 c2 c3 c4 c5 c6 c7 c8 c9 c10 c11 c13 c14 c16
  go_wp2_with fail
  obtain ⟨k2, n2, _, _, _, _, _, _, _, _, hve, hvc, -⟩ := val_out HVX.out
  simp only [vCells, List.cons.injEq, and_true, Value.int.injEq, true_and] at hvc
  have HX' : Hid (kRaise K.c.t { m with wt := nx } n nx = some m') := by
    show _ = _
    have : n0 = n := by rw [← hn0, hve]; exact hvc.2.1.symm
    rw [← this]
    exact HX.out
  clear hve hvc
  refine (raise_c HMX.out HX'.out).mono ?_
  rintro r1 w1 ⟨rfl, hN⟩
  have HN : Hid (Mn K M w D w1 m') := by
    show Mn _ _ _ _ _ _
    exact (hN.pre HFX.out).step HFW.out rfl
  clear hN
  go_wp2_with fail
  (first | go_end0 | ((try simp only [Exit.inBlock, Exit.then]); refine bodyPost_ret (results_none rfl _ _ _) rfl ?_))
  exact ⟨rfl, HN.out⟩

set_option maxHeartbeats 3200000 in
set_option maxRecDepth 100000 in
theorem back_23 (h : Mc K M w m D) (hwt : m.wt = wMk i b v1 s1 nx) (he : expAt K.c.t i = some ⟨23, nu, bi, e1, e2, e3, fs, am⟩) (hx : kCall { m with wt := nx } m.val (vCnt nx) = m') :
    Calls Tryz.prog 92 #[pT M] w fun e w' => e = .returned (.tuple #[]) ∧ Mn K M w D w' m' := by
  have hlw := h.wt
  rw [hwt] at hlw
  obtain ⟨g, ku, nu', pu, pru, bdu, qu, ru, ps, pn, hwp, hg, hv1, hs1, hn⟩ := wt_blk hlw
  obtain ⟨k, n, p, pr, bd, q, r, hV, hb⟩ := h.cells
  have hval := h.val
  rw [hV] at hval
  obtain ⟨⟨o1, rfl⟩, ⟨o2, rfl⟩, o3, rfl⟩ := val_ptrs hval
  obtain ⟨⟨c0, c1, c2, c3, c4, c5, c6, c7, c8, c9, c10, c11, c12, c13, c14, c15, c16⟩, hf⟩ := mc17 hb
  have f12 := hf 12
  have hl := blk_lt hb
  rw [hwp] at c12
  obtain ⟨z0, z1, z2, z3, z4, z5, z6, z7, z8, z9, z10⟩ := wt_cells hg
  have zl := blk_lt hg
  obtain ⟨hMS, hFS⟩ := h.setWt hn
  have HX : Hid (kCall { m with wt := nx } m.val (vCnt nx) = m') := hx
  have HE : Hid (expAt K.c.t i = some ⟨23, nu, bi, e1, e2, e3, fs, am⟩) := he
  obtain ⟨W, hW⟩ : ∃ W, W = (w.setCell ⟨M, 12, none⟩ (.pointer pn)).alloc (.cells #[iV k, iV n, .pointer o1, iV pr, iV bd, .pointer o2, .pointer o3] 196) := ⟨_, rfl⟩
  have hFA : Fr (fun _ => False) (w.setCell ⟨M, 12, none⟩ (.pointer pn)) W := by rw [hW]; exact (Fr.refl _ _).alloc _
  have hFW : Fr (fun b => b = M) w W := hFS.trans hFA (fun _ h => h.elim)
  have hkW := h.kpM hFW
  have HFW : Hid (Fr (fun b => b = M) w W) := hFW
  have HW : Hid (W = (w.setCell ⟨M, 12, none⟩ (.pointer pn)).alloc (.cells #[iV k, iV n, .pointer o1, iV pr, iV bd, .pointer o2, .pointer o3] 196)) := hW
  have HM : Hid (Mc K M W { m with wt := nx } { D with wp := .pointer pn }) := hMS.fr hFA
  have HVv : Hid (Lies W m.val 0 (vCells k n (.pointer o1) pr bd (.pointer o2) (.pointer o3))) := hval.keep hkW
  have HV1 : Hid (Lies W v1 0 (vCells ku nu' (.pointer pu) pru bdu (.pointer qu) (.pointer ru))) := hv1.keep hkW
  have HS1 : Hid (Lies W s1 1 [.pointer ps]) := hs1.keep hkW
  have HN1 : Hid (Lies W nx 2 [.pointer pn]) := hn.keep hkW
  have HLW : Hid (Lies W (wMk i b v1 s1 nx) 2 [pT g]) := by show Lies _ _ _ _; rw [← hwp]; exact hlw.keep hkW
  have HG : Hid (W.heap[g]? = some (.cells #[iV i, .pointer ps, .bool b, iV ku, iV nu', .pointer pu, iV pru, iV bdu, .pointer qu, .pointer ru, .pointer pn] 250 (0, 0))) := (hFW.block g (blk_lt hg) (fun e => by subst e; exact absurd (ty_eq hg hb) (by decide))).trans hg
  have b1 := blk_new (w.setCell ⟨M, 12, none⟩ (.pointer pn)) (.cells #[iV k, iV n, .pointer o1, iV pr, iV bd, .pointer o2, .pointer o3] 196)
  rw [show (w.setCell ⟨M, 12, none⟩ (.pointer pn)).heap.size = w.heap.size by simp, ← hW] at b1
  have HBV : Hid (W.heap[w.heap.size]? = some (.cells #[iV k, iV n, .pointer o1, iV pr, iV bd, .pointer o2, .pointer o3] 196 (0, 0))) := b1
  clear h hwt he hx hlw hval hg hv1 hs1 hn hV hb hf hMS hFS hW hFA hFW hkW b1 hwp
  go_enter Tryz.func92, Tryz.ntmps92
  go_upto_region 3 with fail
  rw [← HW.out]
  clear c0 c1 c2 c3 c4 c5 c6 c7 c8 c9 c10 c11 c12 c13 c14 c15 c16 f12 hl z0 z1 z2 z3 z4 z5 z6 z7 z8 z9 z10 zl
  obtain ⟨z0, z1, z2, z3, z4, z5, z6, z7, z8, z9, z10⟩ := wt_cells HG.out
  have zl := blk_lt HG.out
  obtain ⟨_, _, _, _, _, _, _, -, hb⟩ := HM.out.cells
  obtain ⟨⟨c0, -⟩, -⟩ := mc17 hb
  have hl := blk_lt hb
  obtain ⟨eg, ecap, j, fa, aa, fc, ac, hij, ⟨hj1, hj2, hj3, hj4, hj5⟩, ⟨x0, x1, x2, x3, x4, x5, x6, x7⟩, -, hAr⟩ := HM.out.ex HE.out
  have HIJ : Hid (i = (j : Int)) := hij
  rw [hij] at z0
  have HAr : Hid (W.ownsRow 0 264 2 (.slice aa am.length ac) am.length (armCells am)) := hAr
  clear hb hij hAr
  go_region
  have hFX : Fr (fun _ => False) W (W.alloc (.cells #[iV 23, iV nu, iV bi, iV e1, iV e2, iV e3, .slice fa fs.length fc, .slice aa am.length ac] 162)).drew := (by repeat (first | with_reducible exact Fr.refl _ _ | (with_reducible refine Fr.drew ?_) | (with_reducible refine Fr.drewN ?_ _) | (with_reducible refine Fr.alloc ?_ _) | ((with_reducible refine Fr.setCell ?_ ?_ _); rotate_left; first | exact .inl rfl | exact .inr (Nat.le_refl _) | exact .inl (Nat.le_refl _) | (focus (left; simp; done)) | (focus (left; simp; omega)) | (focus (left; omega)) | (focus (right; simp; done)) | (focus (right; simp; omega)) | (focus (right; omega))) | exact Fr.refl _ _))
  have e1' : (W.alloc (.cells #[iV 23, iV nu, iV bi, iV e1, iV e2, iV e3, .slice fa fs.length fc, .slice aa am.length ac] 162)).drew.heap[W.heap.size]? = some (.cells #[iV 23, iV nu, iV bi, iV e1, iV e2, iV e3, .slice fa fs.length fc, .slice aa am.length ac] 162 (0, 0)) := blk_new W _
  generalize (W.alloc (.cells #[iV 23, iV nu, iV bi, iV e1, iV e2, iV e3, .slice fa fs.length fc, .slice aa am.length ac] 162)).drew = X at hFX e1' ⊢
  have hkX : Kp W X := hFX.kp fun _ _ _ h => h.elim
  have HFX : Hid (Fr (fun _ => False) W X) := hFX
  have HMX : Hid (Mc K M X { m with wt := nx } { D with wp := .pointer pn }) := HM.out.fr hFX
  have HVX : Hid (Lies X m.val 0 (vCells k n (.pointer o1) pr bd (.pointer o2) (.pointer o3))) := HVv.out.keep hkX
  have HSX : Hid (Lies X s1 1 [.pointer ps]) := HS1.out.keep hkX
  have HNX : Hid (Lies X nx 2 [.pointer pn]) := HN1.out.keep hkX
  have HLX : Hid (Lies X (wMk i b v1 s1 nx) 2 [pT g]) := HLW.out.keep hkX
  have HArX : Hid (X.ownsRow 0 264 2 (.slice aa am.length ac) am.length (armCells am)) := rowKeep hFX HAr.out (fun _ _ h => h)
  have hgX := (hFX.block g (blk_lt HG.out) id).trans HG.out
  have hvX := (hFX.block _ (blk_lt HBV.out) id).trans HBV.out
  have HBVX : Hid (X.heap[w.heap.size]? = some (.cells #[iV k, iV n, .pointer o1, iV pr, iV bd, .pointer o2, .pointer o3] 196 (0, 0))) := hvX
  clear z0 z1 z2 z3 z4 z5 z6 z7 z8 z9 z10 zl c0 hl hj1 hj2 hj3 hj4 hj5 x0 x1 x2 x3 x4 x5 x6 x7
  obtain ⟨z0, z1, z2, z3, z4, z5, z6, z7, z8, z9, z10⟩ := wt_cells hgX
  have zl := blk_lt hgX
  obtain ⟨⟨s0, s1', s2, s3, s4, s5, s6⟩, -⟩ := cells7 hvX
  have sl := blk_lt hvX
  obtain ⟨t0, t1, t2, t3, t4, t5, t6, t7⟩ := cells8 e1'
  have tl := blk_lt e1'
  obtain ⟨ck, cn, cp, cpr, cbd, cq, cr, hDV, hbX⟩ := HMX.out.cells
  have HBX : Hid _ := hbX
  have HDV : Hid _ := hDV
  obtain ⟨⟨c0, c1, c2, c3, c4, c5, c6, c7, c8, c9, c10, c11, c12, c13, c14, c15, c16⟩, hfX⟩ := mc17 hbX
  have f15 := hfX 15
  have hl := blk_lt hbX
  have HFd : Hid (Fr (fun _ => False) X X.drew) := by show Fr _ _ _; exact (by repeat (first | with_reducible exact Fr.refl _ _ | (with_reducible refine Fr.drew ?_) | (with_reducible refine Fr.drewN ?_ _) | (with_reducible refine Fr.alloc ?_ _) | ((with_reducible refine Fr.setCell ?_ ?_ _); rotate_left; first | exact .inl rfl | exact .inr (Nat.le_refl _) | exact .inl (Nat.le_refl _) | (focus (left; simp; done)) | (focus (left; simp; omega)) | (focus (left; omega)) | (focus (right; simp; done)) | (focus (right; simp; omega)) | (focus (right; omega))) | exact Fr.refl _ _))
  have HKd : Hid (Kp X X.drew) := HFd.out.kp fun _ _ _ h => h.elim
  clear hgX hvX hFX hkX e1' hbX hfX hDV c1 c2 c3 c4 c5 c6 c7 c8 c9 c10 c11 c13 c14 c16
  go_wp2_with fail
  refine region_tail 7 mixed (by kernel_rfl) ?_
  simp only [List.take_succ_cons, List.take_zero, List.drop_succ_cons, List.drop_zero]
  repeat still_step
  refine wpStill_nil ?_
  go_wp2_with fail
  refine (call_c (HMX.out.fr HFd.out) (HVX.out.keep HKd.out) (A := vCells 6 0 pN 0 0 pN (.pointer pn)) (a := vCnt nx) (val_in nil3 nil1 (HNX.out.keep HKd.out))).mono ?_
  rintro r1 w1 ⟨rfl, hN⟩
  have HN : Hid (Mn K M w D w1 m') := by
    show Mn _ _ _ _ _ _
    rw [← HX.out]
    exact ((hN.pre HFd.out).pre HFX.out).step HFW.out rfl
  clear hN
  go_wp2_with fail
  (first | go_end0 | ((try simp only [Exit.inBlock, Exit.then]); refine bodyPost_ret (results_none rfl _ _ _) rfl ?_))
  exact ⟨rfl, HN.out⟩

set_option maxHeartbeats 3200000 in
set_option maxRecDepth 100000 in
theorem back_d (h : Mc K M w m D) {kk : Int} (hwt : m.wt = wMk i b v1 s1 nx) (he : expAt K.c.t i = some ⟨kk, nu, bi, e1, e2, e3, fs, am⟩) (n10 : ¬ kk = 10) (n13 : ¬ kk = 13) (n14 : ¬ kk = 14) (n15 : ¬ kk = 15) (n22 : ¬ kk = 22) (n24 : ¬ kk = 24) (n23 : ¬ kk = 23) (hx : (if b then kBoth K.c.t f { m with wt := nx } kk v1 m.val else some (kLook { m with wt := wMk i true m.val .skip nx } e2 s1)) = some m') :
    Calls Tryz.prog 92 #[pT M] w fun e w' => e = .returned (.tuple #[]) ∧ Mn K M w D w' m' := by
  have hlw := h.wt
  rw [hwt] at hlw
  obtain ⟨g, ku, nu', pu, pru, bdu, qu, ru, ps, pn, hwp, hg, hv1, hs1, hn⟩ := wt_blk hlw
  obtain ⟨k, n, p, pr, bd, q, r, hV, hb⟩ := h.cells
  have hval := h.val
  rw [hV] at hval
  obtain ⟨⟨o1, rfl⟩, ⟨o2, rfl⟩, o3, rfl⟩ := val_ptrs hval
  obtain ⟨⟨c0, c1, c2, c3, c4, c5, c6, c7, c8, c9, c10, c11, c12, c13, c14, c15, c16⟩, hf⟩ := mc17 hb
  have f12 := hf 12
  have hl := blk_lt hb
  rw [hwp] at c12
  obtain ⟨z0, z1, z2, z3, z4, z5, z6, z7, z8, z9, z10⟩ := wt_cells hg
  have zl := blk_lt hg
  obtain ⟨hMS, hFS⟩ := h.setWt hn
  have HX : Hid ((if b then kBoth K.c.t f { m with wt := nx } kk v1 m.val else some (kLook { m with wt := wMk i true m.val .skip nx } e2 s1)) = some m') := hx
  have HE : Hid (expAt K.c.t i = some ⟨kk, nu, bi, e1, e2, e3, fs, am⟩) := he
  obtain ⟨W, hW⟩ : ∃ W, W = (w.setCell ⟨M, 12, none⟩ (.pointer pn)).alloc (.cells #[iV k, iV n, .pointer o1, iV pr, iV bd, .pointer o2, .pointer o3] 196) := ⟨_, rfl⟩
  have hFA : Fr (fun _ => False) (w.setCell ⟨M, 12, none⟩ (.pointer pn)) W := by rw [hW]; exact (Fr.refl _ _).alloc _
  have hFW : Fr (fun b => b = M) w W := hFS.trans hFA (fun _ h => h.elim)
  have hkW := h.kpM hFW
  have HFW : Hid (Fr (fun b => b = M) w W) := hFW
  have HW : Hid (W = (w.setCell ⟨M, 12, none⟩ (.pointer pn)).alloc (.cells #[iV k, iV n, .pointer o1, iV pr, iV bd, .pointer o2, .pointer o3] 196)) := hW
  have HM : Hid (Mc K M W { m with wt := nx } { D with wp := .pointer pn }) := hMS.fr hFA
  have HVv : Hid (Lies W m.val 0 (vCells k n (.pointer o1) pr bd (.pointer o2) (.pointer o3))) := hval.keep hkW
  have HV1 : Hid (Lies W v1 0 (vCells ku nu' (.pointer pu) pru bdu (.pointer qu) (.pointer ru))) := hv1.keep hkW
  have HS1 : Hid (Lies W s1 1 [.pointer ps]) := hs1.keep hkW
  have HN1 : Hid (Lies W nx 2 [.pointer pn]) := hn.keep hkW
  have HLW : Hid (Lies W (wMk i b v1 s1 nx) 2 [pT g]) := by show Lies _ _ _ _; rw [← hwp]; exact hlw.keep hkW
  have HG : Hid (W.heap[g]? = some (.cells #[iV i, .pointer ps, .bool b, iV ku, iV nu', .pointer pu, iV pru, iV bdu, .pointer qu, .pointer ru, .pointer pn] 250 (0, 0))) := (hFW.block g (blk_lt hg) (fun e => by subst e; exact absurd (ty_eq hg hb) (by decide))).trans hg
  have b1 := blk_new (w.setCell ⟨M, 12, none⟩ (.pointer pn)) (.cells #[iV k, iV n, .pointer o1, iV pr, iV bd, .pointer o2, .pointer o3] 196)
  rw [show (w.setCell ⟨M, 12, none⟩ (.pointer pn)).heap.size = w.heap.size by simp, ← hW] at b1
  have HBV : Hid (W.heap[w.heap.size]? = some (.cells #[iV k, iV n, .pointer o1, iV pr, iV bd, .pointer o2, .pointer o3] 196 (0, 0))) := b1
  clear h hwt he hx hlw hval hg hv1 hs1 hn hV hb hf hMS hFS hW hFA hFW hkW b1 hwp
  go_enter Tryz.func92, Tryz.ntmps92
  go_upto_region 3 with fail
  rw [← HW.out]
  clear c0 c1 c2 c3 c4 c5 c6 c7 c8 c9 c10 c11 c12 c13 c14 c15 c16 f12 hl z0 z1 z2 z3 z4 z5 z6 z7 z8 z9 z10 zl
  obtain ⟨z0, z1, z2, z3, z4, z5, z6, z7, z8, z9, z10⟩ := wt_cells HG.out
  have zl := blk_lt HG.out
  obtain ⟨_, _, _, _, _, _, _, -, hb⟩ := HM.out.cells
  obtain ⟨⟨c0, -⟩, -⟩ := mc17 hb
  have hl := blk_lt hb
  obtain ⟨eg, ecap, j, fa, aa, fc, ac, hij, ⟨hj1, hj2, hj3, hj4, hj5⟩, ⟨x0, x1, x2, x3, x4, x5, x6, x7⟩, -, hAr⟩ := HM.out.ex HE.out
  have HIJ : Hid (i = (j : Int)) := hij
  rw [hij] at z0
  have HAr : Hid (W.ownsRow 0 264 2 (.slice aa am.length ac) am.length (armCells am)) := hAr
  clear hb hij hAr
  go_region
  have hFX : Fr (fun _ => False) W (W.alloc (.cells #[iV kk, iV nu, iV bi, iV e1, iV e2, iV e3, .slice fa fs.length fc, .slice aa am.length ac] 162)).drew := (by repeat (first | with_reducible exact Fr.refl _ _ | (with_reducible refine Fr.drew ?_) | (with_reducible refine Fr.drewN ?_ _) | (with_reducible refine Fr.alloc ?_ _) | ((with_reducible refine Fr.setCell ?_ ?_ _); rotate_left; first | exact .inl rfl | exact .inr (Nat.le_refl _) | exact .inl (Nat.le_refl _) | (focus (left; simp; done)) | (focus (left; simp; omega)) | (focus (left; omega)) | (focus (right; simp; done)) | (focus (right; simp; omega)) | (focus (right; omega))) | exact Fr.refl _ _))
  have e1' : (W.alloc (.cells #[iV kk, iV nu, iV bi, iV e1, iV e2, iV e3, .slice fa fs.length fc, .slice aa am.length ac] 162)).drew.heap[W.heap.size]? = some (.cells #[iV kk, iV nu, iV bi, iV e1, iV e2, iV e3, .slice fa fs.length fc, .slice aa am.length ac] 162 (0, 0)) := blk_new W _
  generalize (W.alloc (.cells #[iV kk, iV nu, iV bi, iV e1, iV e2, iV e3, .slice fa fs.length fc, .slice aa am.length ac] 162)).drew = X at hFX e1' ⊢
  have hkX : Kp W X := hFX.kp fun _ _ _ h => h.elim
  have HFX : Hid (Fr (fun _ => False) W X) := hFX
  have HMX : Hid (Mc K M X { m with wt := nx } { D with wp := .pointer pn }) := HM.out.fr hFX
  have HVX : Hid (Lies X m.val 0 (vCells k n (.pointer o1) pr bd (.pointer o2) (.pointer o3))) := HVv.out.keep hkX
  have HSX : Hid (Lies X s1 1 [.pointer ps]) := HS1.out.keep hkX
  have HNX : Hid (Lies X nx 2 [.pointer pn]) := HN1.out.keep hkX
  have HLX : Hid (Lies X (wMk i b v1 s1 nx) 2 [pT g]) := HLW.out.keep hkX
  have HArX : Hid (X.ownsRow 0 264 2 (.slice aa am.length ac) am.length (armCells am)) := rowKeep hFX HAr.out (fun _ _ h => h)
  have hgX := (hFX.block g (blk_lt HG.out) id).trans HG.out
  have hvX := (hFX.block _ (blk_lt HBV.out) id).trans HBV.out
  have HBVX : Hid (X.heap[w.heap.size]? = some (.cells #[iV k, iV n, .pointer o1, iV pr, iV bd, .pointer o2, .pointer o3] 196 (0, 0))) := hvX
  clear z0 z1 z2 z3 z4 z5 z6 z7 z8 z9 z10 zl c0 hl hj1 hj2 hj3 hj4 hj5 x0 x1 x2 x3 x4 x5 x6 x7
  obtain ⟨z0, z1, z2, z3, z4, z5, z6, z7, z8, z9, z10⟩ := wt_cells hgX
  have zl := blk_lt hgX
  obtain ⟨⟨s0, s1', s2, s3, s4, s5, s6⟩, -⟩ := cells7 hvX
  have sl := blk_lt hvX
  obtain ⟨t0, t1, t2, t3, t4, t5, t6, t7⟩ := cells8 e1'
  have tl := blk_lt e1'
  obtain ⟨ck, cn, cp, cpr, cbd, cq, cr, hDV, hbX⟩ := HMX.out.cells
  have HBX : Hid _ := hbX
  have HDV : Hid _ := hDV
  obtain ⟨⟨c0, c1, c2, c3, c4, c5, c6, c7, c8, c9, c10, c11, c12, c13, c14, c15, c16⟩, hfX⟩ := mc17 hbX
  have f15 := hfX 15
  have hl := blk_lt hbX
  have HFd : Hid (Fr (fun _ => False) X X.drew) := by show Fr _ _ _; exact (by repeat (first | with_reducible exact Fr.refl _ _ | (with_reducible refine Fr.drew ?_) | (with_reducible refine Fr.drewN ?_ _) | (with_reducible refine Fr.alloc ?_ _) | ((with_reducible refine Fr.setCell ?_ ?_ _); rotate_left; first | exact .inl rfl | exact .inr (Nat.le_refl _) | exact .inl (Nat.le_refl _) | (focus (left; simp; done)) | (focus (left; simp; omega)) | (focus (left; omega)) | (focus (right; simp; done)) | (focus (right; simp; omega)) | (focus (right; omega))) | exact Fr.refl _ _))
  have HKd : Hid (Kp X X.drew) := HFd.out.kp fun _ _ _ h => h.elim
  clear hgX hvX hFX hkX e1' hbX hfX hDV c1 c2 c3 c4 c5 c6 c7 c8 c9 c10 c11 c13 c14 c16
  go_wp2_with fail
  refine (part_c HMX.out HLX.out HVX.out HX.out).mono ?_
  rintro r1 w1 ⟨rfl, hN⟩
  have HN : Hid (Mn K M w D w1 m') := by
    show Mn _ _ _ _ _ _
    exact (hN.pre HFX.out).step HFW.out rfl
  clear hN
  go_wp2_with fail
  (first | go_end0 | ((try simp only [Exit.inBlock, Exit.then]); refine bodyPost_ret (results_none rfl _ _ _) rfl ?_))
  exact ⟨rfl, HN.out⟩
end
end Go.Proofs.YtklimomeendajaaGreatDoor

/- machine: comeBack. -/
namespace Go.Proofs.YtklimomeendajaaGreatDoor
open Go.RowKit

section
variable {K : MC} {M : Nat} {w w' : World} {m m' : MX} {D D' : MD} {nu bi e1 e2 e3 : Int} {fs : List (Int × Int × Int)} {am : List (Int × Int)} {f : Nat} {i : Int} {b : Bool} {v1 s1 nx : Code}

/-- A step behind another. -/
theorem Mn.cat {w1 : World} {D1 : MD} (hF : Fr (mown M D) w w1) (hO : ∀ b, D1.pv.ownBlock = some b → D.pv.ownBlock = some b ∨ w.heap.size ≤ b) (h : Mn K M w1 D1 w' m') : Mn K M w D w' m' := by
  obtain ⟨D2, b1, b2, b3⟩ := h
  have hsz := hF.size
  refine ⟨D2, b1, hF.trans b2 (fun b hb => ?_), fun b hb => ?_⟩
  · rcases hb with rfl | hb
    · exact .inl (.inl rfl)
    · rcases hO b hb with h | h
      · exact .inl (.inr h)
      · exact .inr h
  · rcases b3 b hb with h | h
    · exact hO b h
    · exact .inr (by omega)

set_option maxHeartbeats 3200000 in
set_option maxRecDepth 100000 in
theorem back_24 (h : Mc K M w m D) (hwt : m.wt = wMk i b v1 s1 nx) (he : expAt K.c.t i = some ⟨24, nu, bi, e1, e2, e3, fs, am⟩) (hlen : m.pr.length ≤ 1000000000000) (hx : kGo f { m with wt := nx, pr := m.pr ++ [vN m.val] } m.val = some m') :
    Calls Tryz.prog 92 #[pT M] w fun e w' => e = .returned (.tuple #[]) ∧ Mn K M w D w' m' := by
  have hlw := h.wt
  rw [hwt] at hlw
  obtain ⟨g, ku, nu', pu, pru, bdu, qu, ru, ps, pn, hwp, hg, hv1, hs1, hn⟩ := wt_blk hlw
  obtain ⟨k, n, p, pr, bd, q, r, hV, hb⟩ := h.cells
  have hval := h.val
  rw [hV] at hval
  obtain ⟨⟨o1, rfl⟩, ⟨o2, rfl⟩, o3, rfl⟩ := val_ptrs hval
  obtain ⟨⟨c0, c1, c2, c3, c4, c5, c6, c7, c8, c9, c10, c11, c12, c13, c14, c15, c16⟩, hf⟩ := mc17 hb
  have f12 := hf 12
  have hl := blk_lt hb
  rw [hwp] at c12
  obtain ⟨z0, z1, z2, z3, z4, z5, z6, z7, z8, z9, z10⟩ := wt_cells hg
  have zl := blk_lt hg
  obtain ⟨hMS, hFS⟩ := h.setWt hn
  have HX : Hid (kGo f { m with wt := nx, pr := m.pr ++ [vN m.val] } m.val = some m') := hx
  have HE : Hid (expAt K.c.t i = some ⟨24, nu, bi, e1, e2, e3, fs, am⟩) := he
  obtain ⟨W, hW⟩ : ∃ W, W = (w.setCell ⟨M, 12, none⟩ (.pointer pn)).alloc (.cells #[iV k, iV n, .pointer o1, iV pr, iV bd, .pointer o2, .pointer o3] 196) := ⟨_, rfl⟩
  have hFA : Fr (fun _ => False) (w.setCell ⟨M, 12, none⟩ (.pointer pn)) W := by rw [hW]; exact (Fr.refl _ _).alloc _
  have hFW : Fr (fun b => b = M) w W := hFS.trans hFA (fun _ h => h.elim)
  have hkW := h.kpM hFW
  have HFW : Hid (Fr (fun b => b = M) w W) := hFW
  have HW : Hid (W = (w.setCell ⟨M, 12, none⟩ (.pointer pn)).alloc (.cells #[iV k, iV n, .pointer o1, iV pr, iV bd, .pointer o2, .pointer o3] 196)) := hW
  have HM : Hid (Mc K M W { m with wt := nx } { D with wp := .pointer pn }) := hMS.fr hFA
  have HVv : Hid (Lies W m.val 0 (vCells k n (.pointer o1) pr bd (.pointer o2) (.pointer o3))) := hval.keep hkW
  have HV1 : Hid (Lies W v1 0 (vCells ku nu' (.pointer pu) pru bdu (.pointer qu) (.pointer ru))) := hv1.keep hkW
  have HS1 : Hid (Lies W s1 1 [.pointer ps]) := hs1.keep hkW
  have HN1 : Hid (Lies W nx 2 [.pointer pn]) := hn.keep hkW
  have HLW : Hid (Lies W (wMk i b v1 s1 nx) 2 [pT g]) := by show Lies _ _ _ _; rw [← hwp]; exact hlw.keep hkW
  have HG : Hid (W.heap[g]? = some (.cells #[iV i, .pointer ps, .bool b, iV ku, iV nu', .pointer pu, iV pru, iV bdu, .pointer qu, .pointer ru, .pointer pn] 250 (0, 0))) := (hFW.block g (blk_lt hg) (fun e => by subst e; exact absurd (ty_eq hg hb) (by decide))).trans hg
  have b1 := blk_new (w.setCell ⟨M, 12, none⟩ (.pointer pn)) (.cells #[iV k, iV n, .pointer o1, iV pr, iV bd, .pointer o2, .pointer o3] 196)
  rw [show (w.setCell ⟨M, 12, none⟩ (.pointer pn)).heap.size = w.heap.size by simp, ← hW] at b1
  have HBV : Hid (W.heap[w.heap.size]? = some (.cells #[iV k, iV n, .pointer o1, iV pr, iV bd, .pointer o2, .pointer o3] 196 (0, 0))) := b1
  clear h hwt he hx hlw hval hg hv1 hs1 hn hV hb hf hMS hFS hW hFA hFW hkW b1 hwp
  go_enter Tryz.func92, Tryz.ntmps92
  go_upto_region 3 with fail
  rw [← HW.out]
  clear c0 c1 c2 c3 c4 c5 c6 c7 c8 c9 c10 c11 c12 c13 c14 c15 c16 f12 hl z0 z1 z2 z3 z4 z5 z6 z7 z8 z9 z10 zl
  obtain ⟨z0, z1, z2, z3, z4, z5, z6, z7, z8, z9, z10⟩ := wt_cells HG.out
  have zl := blk_lt HG.out
  obtain ⟨_, _, _, _, _, _, _, -, hb⟩ := HM.out.cells
  obtain ⟨⟨c0, -⟩, -⟩ := mc17 hb
  have hl := blk_lt hb
  obtain ⟨eg, ecap, j, fa, aa, fc, ac, hij, ⟨hj1, hj2, hj3, hj4, hj5⟩, ⟨x0, x1, x2, x3, x4, x5, x6, x7⟩, -, hAr⟩ := HM.out.ex HE.out
  have HIJ : Hid (i = (j : Int)) := hij
  rw [hij] at z0
  have HAr : Hid (W.ownsRow 0 264 2 (.slice aa am.length ac) am.length (armCells am)) := hAr
  clear hb hij hAr
  go_region
  have hFX : Fr (fun _ => False) W (W.alloc (.cells #[iV 24, iV nu, iV bi, iV e1, iV e2, iV e3, .slice fa fs.length fc, .slice aa am.length ac] 162)).drew := (by repeat (first | with_reducible exact Fr.refl _ _ | (with_reducible refine Fr.drew ?_) | (with_reducible refine Fr.drewN ?_ _) | (with_reducible refine Fr.alloc ?_ _) | ((with_reducible refine Fr.setCell ?_ ?_ _); rotate_left; first | exact .inl rfl | exact .inr (Nat.le_refl _) | exact .inl (Nat.le_refl _) | (focus (left; simp; done)) | (focus (left; simp; omega)) | (focus (left; omega)) | (focus (right; simp; done)) | (focus (right; simp; omega)) | (focus (right; omega))) | exact Fr.refl _ _))
  have e1' : (W.alloc (.cells #[iV 24, iV nu, iV bi, iV e1, iV e2, iV e3, .slice fa fs.length fc, .slice aa am.length ac] 162)).drew.heap[W.heap.size]? = some (.cells #[iV 24, iV nu, iV bi, iV e1, iV e2, iV e3, .slice fa fs.length fc, .slice aa am.length ac] 162 (0, 0)) := blk_new W _
  generalize (W.alloc (.cells #[iV 24, iV nu, iV bi, iV e1, iV e2, iV e3, .slice fa fs.length fc, .slice aa am.length ac] 162)).drew = X at hFX e1' ⊢
  have hkX : Kp W X := hFX.kp fun _ _ _ h => h.elim
  have HFX : Hid (Fr (fun _ => False) W X) := hFX
  have HMX : Hid (Mc K M X { m with wt := nx } { D with wp := .pointer pn }) := HM.out.fr hFX
  have HVX : Hid (Lies X m.val 0 (vCells k n (.pointer o1) pr bd (.pointer o2) (.pointer o3))) := HVv.out.keep hkX
  have HSX : Hid (Lies X s1 1 [.pointer ps]) := HS1.out.keep hkX
  have HNX : Hid (Lies X nx 2 [.pointer pn]) := HN1.out.keep hkX
  have HLX : Hid (Lies X (wMk i b v1 s1 nx) 2 [pT g]) := HLW.out.keep hkX
  have HArX : Hid (X.ownsRow 0 264 2 (.slice aa am.length ac) am.length (armCells am)) := rowKeep hFX HAr.out (fun _ _ h => h)
  have hgX := (hFX.block g (blk_lt HG.out) id).trans HG.out
  have hvX := (hFX.block _ (blk_lt HBV.out) id).trans HBV.out
  have HBVX : Hid (X.heap[w.heap.size]? = some (.cells #[iV k, iV n, .pointer o1, iV pr, iV bd, .pointer o2, .pointer o3] 196 (0, 0))) := hvX
  clear z0 z1 z2 z3 z4 z5 z6 z7 z8 z9 z10 zl c0 hl hj1 hj2 hj3 hj4 hj5 x0 x1 x2 x3 x4 x5 x6 x7
  obtain ⟨z0, z1, z2, z3, z4, z5, z6, z7, z8, z9, z10⟩ := wt_cells hgX
  have zl := blk_lt hgX
  obtain ⟨⟨s0, s1', s2, s3, s4, s5, s6⟩, -⟩ := cells7 hvX
  have sl := blk_lt hvX
  obtain ⟨t0, t1, t2, t3, t4, t5, t6, t7⟩ := cells8 e1'
  have tl := blk_lt e1'
  obtain ⟨ck, cn, cp, cpr, cbd, cq, cr, hDV, hbX⟩ := HMX.out.cells
  have HBX : Hid _ := hbX
  have HDV : Hid _ := hDV
  obtain ⟨⟨c0, c1, c2, c3, c4, c5, c6, c7, c8, c9, c10, c11, c12, c13, c14, c15, c16⟩, hfX⟩ := mc17 hbX
  have f15 := hfX 15
  have hl := blk_lt hbX
  have HFd : Hid (Fr (fun _ => False) X X.drew) := by show Fr _ _ _; exact (by repeat (first | with_reducible exact Fr.refl _ _ | (with_reducible refine Fr.drew ?_) | (with_reducible refine Fr.drewN ?_ _) | (with_reducible refine Fr.alloc ?_ _) | ((with_reducible refine Fr.setCell ?_ ?_ _); rotate_left; first | exact .inl rfl | exact .inr (Nat.le_refl _) | exact .inl (Nat.le_refl _) | (focus (left; simp; done)) | (focus (left; simp; omega)) | (focus (left; omega)) | (focus (right; simp; done)) | (focus (right; simp; omega)) | (focus (right; omega))) | exact Fr.refl _ _))
  have HKd : Hid (Kp X X.drew) := HFd.out.kp fun _ _ _ h => h.elim
  clear hgX hvX hFX hkX e1' hbX hfX hDV c1 c2 c3 c4 c5 c6 c7 c8 c9 c10 c11 c13 c14 c16
  go_wp2_with fail
  have hP := HMX.out.pr
  obtain ⟨pa, pc, hpv⟩ := ownsRow_len hP
  simp only at hpv c15 hP
  rw [hpv] at c15 hP
  have HPV : Hid (D.pv = .slice pa m.pr.length pc) := hpv
  have HPM : Hid (∀ b, (Value.slice pa m.pr.length pc).ownBlock = some b → M + 1 ≤ b) := fun b hb => (hP.lt b hb).1
  have hn0 : vN m.val = n := by
    obtain ⟨k2, n2, _, _, _, _, _, _, _, _, hve, hvc, -⟩ := val_out HVX.out
    simp only [vCells, List.cons.injEq, and_true, Value.int.injEq, true_and] at hvc
    rw [hve]
    exact hvc.2.1.symm
  have HX' : Hid (kGo f { m with wt := nx, pr := m.pr ++ [n] } m.val = some m') := by
    show _ = _
    rw [← hn0]
    exact HX.out
  clear hpv hn0
  go_region_law (refine step_app slInt rfl (.tmp 92) (.tmp 95) rfl (M + 1) m.pr.length (m.pr.map (.int .i64)) _ rfl ((hP.drew).alloc _) ⟨X.heap.size, 0, none⟩ 1 1 [iV n] rfl rfl (by intro j u hj; match j, hj with | 0, hj => simp at hj; subst hj; simp [Addr.add]) (by intro u hu; simp at hu; rcases hu with rfl; rfl) (by decide) (by unfold maxLen; omega) (by omega) (by simp; omega) ?_; rintro v' w2 hown hgrow hv ⟨g', cap, rfl⟩; obtain ⟨k3, g3⟩ := grown_at hl (by exact (((Fr.refl _ X).drew).alloc _)) hgrow HPM.out 15; rw [c15] at k3; rw [f15] at g3)
  all_goals
   have hPr := HMX.out.print (l := n) (w1 := X.drew.alloc (.cells #[iV n] 3)) (by repeat (first | with_reducible exact Fr.refl _ _ | (with_reducible refine Fr.drew ?_) | (with_reducible refine Fr.drewN ?_ _) | (with_reducible refine Fr.alloc ?_ _) | ((with_reducible refine Fr.setCell ?_ ?_ _); rotate_left; first | exact .inl rfl | exact .inr (Nat.le_refl _) | exact .inl (Nat.le_refl _) | (focus (left; simp; done)) | (focus (left; simp; omega)) | (focus (left; omega)) | (focus (right; simp; done)) | (focus (right; simp; omega)) | (focus (right; omega))) | exact Fr.refl _ _)) (by simp only; rw [HPV.out]; exact hgrow) (by simpa using hown) (by simp only; rw [HPV.out]; exact hv)
   have HPr : Hid _ := hPr
   have hbv := (hPr.2.1.block _ (blk_lt HBVX.out) (fun e => by
     rcases e with e | e
     · exact absurd (ty_eq HBVX.out (e ▸ HMX.out.blk)) (by decide)
     · obtain ⟨cur, hc⟩ := row_blk HMX.out.pr e
       exact absurd (ty_eq HBVX.out hc) (by decide))).trans HBVX.out
   clear s0 s1' s2 s3 s4 s5 s6 sl
   obtain ⟨⟨s0, s1', s2, s3, s4, s5, s6⟩, -⟩ := cells7 hbv
   have sl := blk_lt hbv
   clear hPr hbv hown hgrow hv k3 g3 z0 z1 z2 z3 z4 z5 z6 z7 z8 z9 z10 zl t0 t1 t2 t3 t4 t5 t6 t7 tl hP c15
   generalize w2.setCell ⟨M, 15, none⟩ (.slice (some ⟨g', 0, none⟩) (m.pr.length + 1) cap) = X2 at HPr s0 s1' s2 s3 s4 s5 s6 sl ⊢
   go_wp2_with fail
   refine (goOn_c HPr.out.1 (HVX.out.keep (HMX.out.kp HPr.out.2.1)) HX'.out).mono ?_
   rintro r1 w1 ⟨rfl, hN⟩
   have HN : Hid (Mn K M w D w1 m') := by
     show Mn _ _ _ _ _ _
     exact ((hN.cat HPr.out.2.1 HPr.out.2.2).pre HFX.out).step HFW.out rfl
   clear hN
   go_wp2_with fail
   (first | go_end0 | ((try simp only [Exit.inBlock, Exit.then]); refine bodyPost_ret (results_none rfl _ _ _) rfl ?_))
   exact ⟨rfl, HN.out⟩
end
end Go.Proofs.YtklimomeendajaaGreatDoor

/- machine: a jump; Go. -/
namespace Go.Proofs.YtklimomeendajaaGreatDoor
open Go.RowKit

section
variable {K : MC} {M : Nat} {w w' : World} {m m' : MX} {D D' : MD} {f : Nat}

theorem look_c (h : Mc K M w m D) (hx : kStepL K.c.t K.c.ms K.c.kp f m = some m') :
    Calls Tryz.prog 91 #[pT M] w fun e w' => e = .returned (.tuple #[]) ∧ Mn K M w D w' m' := by
  unfold kStepL at hx
  obtain ⟨⟨kk, nu, bi, e1, e2, e3, fs, am⟩, he, hx⟩ := bindO hx
  simp only at hx
  by_cases k1 : kk = 1
  · rw [if_pos k1] at hx; subst k1; exact look_1 h he hx
  rw [if_neg k1] at hx
  by_cases k23 : kk = 2 ∨ kk = 3
  · rw [if_pos k23] at hx
    rcases k23 with rfl | rfl
    · exact look_2 h he hx
    · exact look_3 h he hx
  rw [if_neg k23] at hx
  simp only [not_or] at k23
  by_cases k5 : kk = 5
  · rw [if_pos k5] at hx; subst k5; exact look_5 h he hx
  rw [if_neg k5] at hx
  by_cases k4 : kk = 4
  · rw [if_pos k4] at hx
    subst k4
    obtain ⟨b, hb, hx⟩ := bindO hx
    obtain ⟨rs, hr, hx⟩ := bindO hx
    exact look_4 h he hb hr (by cases rs <;> exact hx)
  rw [if_neg k4] at hx
  by_cases k12 : kk = 12
  · rw [if_pos k12] at hx
    subst k12
    obtain ⟨u, hu, hx⟩ := bindO hx
    obtain ⟨c, hc, hx⟩ := bindO hx
    rw [forceC_eq] at hx
    exact look_12 h he hu hc hx
  rw [if_neg k12] at hx
  by_cases k9 : kk = 9
  · rw [if_pos k9] at hx; subst k9; exact look_9 h he hx
  rw [if_neg k9] at hx
  by_cases k11 : kk = 11
  · rw [if_pos k11] at hx
    subst k11
    obtain ⟨u, hu, hx⟩ := bindO hx
    obtain ⟨c, hc, hx⟩ := bindO hx
    rw [forceC_eq] at hx
    injection hx with hx
    exact look_11 h he hu hc hx
  rw [if_neg k11] at hx
  injection hx with hx
  exact look_d h he k1 k23.1 k23.2 k4 k5 k9 k11 k12 hx

theorem comeBack_c (h : Mc K M w m D) (hx : kStepB K.c.t f m = some m') :
    Calls Tryz.prog 92 #[pT M] w fun e w' => e = .returned (.tuple #[]) ∧ Mn K M w D w' m' := by
  unfold kStepB at hx
  split at hx
  · cases hx
  rename_i hc
  obtain ⟨i, b, v1, s1, nx, hwt⟩ : ∃ i b v1 s1 nx, m.wt = wMk i b v1 s1 nx := by
    rcases wt_shape h.wt with ⟨h1, _⟩ | h1
    · rw [h1] at hc; exact absurd rfl hc
    · exact h1
  have a1 : wE m.wt = i := by rw [hwt]; rfl
  have a2 : sndC m.wt = nx := by rw [hwt]; rfl
  have a3 : wS m.wt = s1 := by rw [hwt]; rfl
  have a4 : wV m.wt = v1 := by rw [hwt]; rfl
  have a5 : wB m.wt = if b then 1 else 0 := by rw [hwt]; rfl
  rw [a1] at hx
  obtain ⟨⟨kk, nu, bi, e1, e2, e3, fs, am⟩, he, hx⟩ := bindO hx
  simp only [a2, a3, a4, a5] at hx
  by_cases k10 : kk = 10
  · rw [if_pos k10] at hx; subst k10; injection hx with hx; exact back_10 h hwt he hx
  rw [if_neg k10] at hx
  by_cases k13 : kk = 13
  · rw [if_pos k13] at hx; subst k13; injection hx with hx; exact back_13 h hwt he hx
  rw [if_neg k13] at hx
  by_cases k14 : kk = 14
  · rw [if_pos k14] at hx; subst k14; exact back_14 h hwt he hx
  rw [if_neg k14] at hx
  by_cases k15 : kk = 15
  · rw [if_pos k15] at hx; subst k15; exact back_15 h hwt he hx
  rw [if_neg k15] at hx
  by_cases k22 : kk = 22
  · rw [if_pos k22] at hx; subst k22; exact back_22 h hwt he rfl hx
  rw [if_neg k22] at hx
  by_cases k24 : kk = 24
  · rw [if_pos k24] at hx
    subst k24
    split at hx
    · cases hx
    rename_i hl
    exact back_24 h hwt he (by omega) hx
  rw [if_neg k24] at hx
  by_cases k23 : kk = 23
  · rw [if_pos k23] at hx; subst k23; injection hx with hx; exact back_23 h hwt he hx
  rw [if_neg k23] at hx
  refine back_d (f := f) h hwt he k10 k13 k14 k15 k22 k24 k23 ?_
  cases b with
  | true => simpa using hx
  | false => simpa [a1] using hx

/-- The jumps are counted. -/
theorem Mc.setJm (h : Mc K M w m D) {j : Int} :
    Mc K M (w.setCell ⟨M, 16, none⟩ (iV j)) { m with jm := j } D ∧ Fr (fun b => b = M) w (w.setCell ⟨M, 16, none⟩ (iV j)) := by
  obtain ⟨k, n, p, pr, bd, q, r, hV, hb⟩ := h.cells
  obtain ⟨⟨c0, c1, c2, c3, c4, c5, c6, c7, c8, c9, c10, c11, c12, c13, c14, c15, c16⟩, hf⟩ := mc17 hb
  have f1 := hf 1; have f2 := hf 2; have f3 := hf 3; have f4 := hf 4; have f5 := hf 5; have f6 := hf 6; have f7 := hf 7; have f8 := hf 8; have f9 := hf 9; have f10 := hf 10; have f11 := hf 11; have f12 := hf 12; have f13 := hf 13; have f14 := hf 14; have f15 := hf 15; have f16 := hf 16
  have hl := blk_lt hb
  have H : Hid (Mc K M w m D) := h
  have HB : Hid (w.heap[M]? = some (.cells #[pT K.cb, D.iv, .bool m.lk, iV m.ex, D.sp, iV k, iV n, p, iV pr, iV bd, q, r, D.wp, iV m.st, .string (bz m.tx), D.pv, iV m.jm] 198 (0, 0))) := hb
  have HV : Hid (D.V = vCells k n p pr bd q r) := hV
  clear h hb hf hV
  have gB := blk_set (i := 16) (v := iV j) (c' := #[pT K.cb, D.iv, .bool m.lk, iV m.ex, D.sp, iV k, iV n, p, iV pr, iV bd, q, r, D.wp, iV m.st, .string (bz m.tx), D.pv, iV j]) HB.out rfl
  have hF : Fr (fun b => b = M) w (w.setCell ⟨M, 16, none⟩ (iV j)) := (by repeat (first | with_reducible exact Fr.refl _ _ | (with_reducible refine Fr.drew ?_) | (with_reducible refine Fr.drewN ?_ _) | (with_reducible refine Fr.alloc ?_ _) | ((with_reducible refine Fr.setCell ?_ ?_ _); rotate_left; first | exact .inl rfl | exact .inr (Nat.le_refl _) | exact .inl (Nat.le_refl _) | (focus (left; simp; done)) | (focus (left; simp; omega)) | (focus (left; omega)) | (focus (right; simp; done)) | (focus (right; simp; omega)) | (focus (right; omega))) | exact Fr.refl _ _))
  have hk := H.out.kpM hF
  exact ⟨H.out.upd hF (by unfold mCells; simp only [HV.out]; exact gB) rfl rfl H.out.inp H.out.ip (H.out.sg.keep hk) (H.out.val.keep hk) (H.out.wt.keep hk), hF⟩

theorem kGoes_succ {t : RS} {ms : List Int} {kp : List (List Bool)} {n : Nat} (hx : kGoes t ms kp f (n + 1) m = some m') :
    (0 ≤ m.jm ∧ m.jm ≤ 1000000000000000) ∧ ((m.st ≠ 0 ∧ m' = m) ∨ (m.st = 0 ∧ ∃ m1, (if m.lk then kStepL t ms kp f { m with jm := m.jm + 1 } else kStepB t f { m with jm := m.jm + 1 }) = some m1 ∧ kGoes t ms kp f n m1 = some m')) := by
  unfold kGoes at hx
  split at hx
  · cases hx
  rename_i hj
  refine ⟨by omega, ?_⟩
  split at hx
  · rename_i hs
    obtain ⟨m1, h1, hx⟩ := bindO hx
    simp only [forceI_eq, forceC_eq, forceL_eq, forceB_eq] at hx
    exact .inr ⟨hs, m1, h1, hx⟩
  · rename_i hs
    injection hx with hx
    exact .inl ⟨hs, hx.symm⟩

theorem kGoes_end {t : RS} {ms : List Int} {kp : List (List Bool)} : ∀ {n : Nat} {m m' : MX}, m.st ≠ 0 → kGoes t ms kp f n m = some m' → m' = m
  | 0, m, m', _, hx => by simp [kGoes] at hx; exact hx.symm
  | n + 1, m, m', hs, hx => by
    rcases (kGoes_succ hx).2 with ⟨_, h⟩ | ⟨h, _⟩
    · exact h
    · exact absurd h hs

set_option maxHeartbeats 3200000 in
set_option maxRecDepth 100000 in
theorem go_c (h : Mc K M w m D) {n : Nat} (hn : n ≤ 1000000000) (hx : kGoes K.c.t K.c.ms K.c.kp f n m = some m') :
    Calls Tryz.prog 66 #[pT M, iV n] w fun e w' => e = .returned (.tuple #[]) ∧ Mn K M w D w' m' := by
  have H : Hid (Mc K M w m D) := h
  have HX : Hid (kGoes K.c.t K.c.ms K.c.kp f n m = some m') := hx
  clear h hx
  go_enter Tryz.func66, Tryz.ntmps66
  go_wp2_with fail
  go_loopg [4] n (fun k iv wr => ∃ (i : Nat) (m1 : MX) (D1 : MD), iv = .int .i64 i ∧ i ≤ n ∧ k = n - i ∧ kGoes K.c.t K.c.ms K.c.kp f (n - i) m1 = some m' ∧ Mc K M wr m1 D1 ∧ Fr (mown M D) w wr ∧ ∀ b, D1.pv.ownBlock = some b → D.pv.ownBlock = some b ∨ w.heap.size ≤ b)
  case atStart => exact ⟨0, m, D, rfl, Nat.zero_le _, rfl, HX.out, H.out, Fr.refl _ _, fun _ h => .inl h⟩
  case round =>
    obtain ⟨i, m1, D1, rfl, hi, hk, hx, h1, hF, hO⟩ := hrel
    have HM : Hid (gk = n - i) := hk
    have HF : Hid (Fr (mown M D) w wr) := hF
    have HO : Hid (∀ b, D1.pv.ownBlock = some b → D.pv.ownBlock = some b ∨ w.heap.size ≤ b) := hO
    have H1 : Hid (Mc K M wr m1 D1) := h1
    obtain ⟨_, _, _, _, _, _, _, -, hb⟩ := h1.cells
    obtain ⟨⟨-, -, c2, -, -, -, -, -, -, -, -, -, -, c13, -, -, c16⟩, hf⟩ := mc17 hb
    have f16 := hf 16
    have hl := blk_lt hb
    clear hk hF hO h1 hb hf
    by_cases hil : i < n
    · obtain ⟨p, hp⟩ : ∃ p, n - i = p + 1 := ⟨n - i - 1, by omega⟩
      rw [hp] at hx
      obtain ⟨hj, hx⟩ := kGoes_succ hx
      have q1 : (i : Int) < (n : Int) := by omega
      rcases hx with ⟨hs, rfl⟩ | ⟨hs, m2, hst, hx⟩
      · have hs' : (m'.st == 0) = false := by simpa using hs
        clear hp
        go_wp2_with fail
        (first | go_end0 | ((try simp only [Exit.inBlock, Exit.then]); refine bodyPost_ret (results_none rfl _ _ _) rfl ?_))
        exact ⟨rfl, D1, H1.out, HF.out, HO.out⟩
      · rw [hs] at c13
        have e1 : IntKind.i64.wrap (m1.jm + 1) = m1.jm + 1 := by rw [IntKind.wrap_i64]; omega
        have HJ : Hid (Mc K M (wr.setCell ⟨M, 16, none⟩ (iV (m1.jm + 1))) { m1 with jm := m1.jm + 1 } D1 ∧ Fr (fun b => b = M) wr (wr.setCell ⟨M, 16, none⟩ (iV (m1.jm + 1)))) := H1.out.setJm
        have HP : Hid (n - i = p + 1) := hp
        have HX2 : Hid (kGoes K.c.t K.c.ms K.c.kp f p m2 = some m') := hx
        clear hp hx
        cases hlk : m1.lk with
        | true =>
          rw [hlk] at c2
          rw [if_pos hlk] at hst
          have HST : Hid (kStepL K.c.t K.c.ms K.c.kp f { m1 with jm := m1.jm + 1 } = some m2) := hst
          clear hst hlk
          go_wp2_with fail
          refine (look_c HJ.out.1 HST.out).mono ?_
          rintro r1 w1 ⟨rfl, hN⟩
          have HN : Hid (Mn K M w D w1 m2) := (hN.step HJ.out.2 rfl).cat HF.out HO.out
          clear hN
          go_wp2_with fail
          go_roundg (n - (i + 1))
          case measure => rw [HM.out]; omega
          case rel =>
            obtain ⟨D2, g1, g2, g3⟩ := HN.out
            exact ⟨i + 1, m2, D2, by go_num, by omega, rfl, by rw [show n - (i + 1) = p by have := HP.out; omega]; exact HX2.out, g1, g2, g3⟩
        | false =>
          rw [hlk] at c2
          rw [if_neg (by simp [hlk])] at hst
          have HST : Hid (kStepB K.c.t f { m1 with jm := m1.jm + 1 } = some m2) := hst
          clear hst hlk
          go_wp2_with fail
          refine (comeBack_c HJ.out.1 HST.out).mono ?_
          rintro r1 w1 ⟨rfl, hN⟩
          have HN : Hid (Mn K M w D w1 m2) := (hN.step HJ.out.2 rfl).cat HF.out HO.out
          clear hN
          go_wp2_with fail
          go_roundg (n - (i + 1))
          case measure => rw [HM.out]; omega
          case rel =>
            obtain ⟨D2, g1, g2, g3⟩ := HN.out
            exact ⟨i + 1, m2, D2, by go_num, by omega, rfl, by rw [show n - (i + 1) = p by have := HP.out; omega]; exact HX2.out, g1, g2, g3⟩
    · obtain rfl : i = n := by omega
      simp only [Nat.sub_self, kGoes, Option.some.injEq] at hx
      subst hx
      go_wp2_with fail
      (first | go_end0 | ((try simp only [Exit.inBlock, Exit.then]); refine bodyPost_ret (results_none rfl _ _ _) rfl ?_))
      exact ⟨rfl, D1, H1.out, HF.out, HO.out⟩
end
end Go.Proofs.YtklimomeendajaaGreatDoor

/- machine: New. -/
namespace Go.Proofs.YtklimomeendajaaGreatDoor
open Go.RowKit

section
variable {K : MC} {M : Nat} {w w' : World} {m m' : MX} {D D' : MD} {f : Nat}

set_option maxHeartbeats 3200000 in
set_option maxRecDepth 100000 in
theorem new_c0 (h : K.at w) (htb : TB w) :
    Calls Tryz.prog 64 #[pT K.cb, (.slice none 0 0)] w fun e w' => ∃ M D, e = .returned (pT M) ∧ w.heap.size ≤ M ∧ Fr (fun _ => False) w w' ∧ Mc K M w' (kStart K.c.root []) D ∧ D.pv = .slice none 0 0 := by
  have HC : Hid (K.at w) := h
  have HT : Hid (TB w) := htb
  have hc := (mc6 h.blk).2.2.1
  have hl := blk_lt h.blk
  clear h htb
  go_enter Tryz.func64, Tryz.ntmps64
  go_wp2_with fail
  go_ret
  have hF : Fr (fun _ => False) w (w.alloc (.cells #[pT K.cb, .slice none 0 0, .bool true, iV K.c.root, pN, iV 0, iV 0, pN, iV 0, iV 0, pN, pN, pN, iV 0, .string (bz []), .slice none 0 0, iV 0] 198)) := (Fr.refl _ w).alloc _
  exact ⟨w.heap.size, ⟨.slice none 0 0, pN, vCells 0 0 pN 0 0 pN pN, pN, .slice none 0 0⟩, rfl, Nat.le_refl _, hF, ⟨blk_new w (.cells #[pT K.cb, .slice none 0 0, .bool true, iV K.c.root, pN, iV 0, iV 0, pN, iV 0, iV 0, pN, pN, pN, iV 0, .string (bz []), .slice none 0 0, iV 0] 198), HC.out.keep fun b hb => hF.block b (HC.out.lt b hb) id, HC.out.lt, .inl ⟨rfl, _, _, rfl⟩, nil1, v0_lies, nil2, World.ownsRow_nil _ _ _ _, (fun h => absurd rfl h), HT.out.fr hF (fun _ h => h.elim), by have := HT.out.lt; omega⟩, rfl⟩

/-- What State answers of what was printed. -/
def PrAt (w w' : World) (pv : Value) (l : List Int) : Prop :=
  (l = [] ∧ pv = .slice none 0 0) ∨ (l ≠ [] ∧ ∃ g, w.heap.size ≤ g ∧ pv = .slice (some ⟨g, 0, none⟩) l.length l.length ∧ w'.heap[g]? = some (.cells (l.map (.int .i64)).toArray 3 (0, 0)))

end
end Go.Proofs.YtklimomeendajaaGreatDoor

/- machine: State. -/
namespace Go.Proofs.YtklimomeendajaaGreatDoor
open Go.RowKit

section
variable {K : MC} {M : Nat} {w w' : World} {m m' : MX} {D D' : MD} {f : Nat}

theorem infoI : (Tryz.prog.info? 3).map (fun i => (i.zero, i.size, i.bytes)) = some (some (.int .i64 0), 1, 8) := by kernel_rfl

theorem made_ints (n : Nat) : madeCells #[Value.int .i64 0] n = (List.replicate n (iV 0)).toArray := by
  apply Array.ext
  · rw [size_madeCells]; simp
  · intro i h1 h2
    simp [madeCells, Nat.mod_one]

theorem st_set (l : List Int) (j : Nat) (hj : j < l.length) : ((l.take j).map (Value.int .i64) ++ List.replicate (l.length - j) (iV 0)).toArray.setIfInBounds j (iV (l.getD j 0)) = ((l.take (j + 1)).map (Value.int .i64) ++ List.replicate (l.length - (j + 1)) (iV 0)).toArray := by
  obtain ⟨k, hk⟩ : ∃ k, l.length - j = k + 1 := ⟨l.length - j - 1, by omega⟩
  have hk2 : l.length - (j + 1) = k := by omega
  have hlen : ((l.take j).map (Value.int .i64)).length = j := by simp; omega
  have e : (l.take (j + 1)).map (Value.int .i64) = (l.take j).map (Value.int .i64) ++ [iV (l.getD j 0)] := by
    rw [List.take_add_one, List.map_append, List.getElem?_eq_getElem hj]
    simp [hj]
  rw [List.setIfInBounds_toArray, hk, hk2, List.set_append_right _ _ (by omega), hlen, Nat.sub_self, List.replicate_succ, List.set_cons_zero, e, List.append_assoc]
  rfl

theorem st_get (l : List Int) (j : Nat) (hj : j < l.length) : ((l.take j).map (Value.int .i64) ++ List.replicate (l.length - j) (iV 0))[j]? = some (iV 0) := by
  obtain ⟨k, hk⟩ : ∃ k, l.length - j = k + 1 := ⟨l.length - j - 1, by omega⟩
  have hlen : ((l.take j).map (Value.int .i64)).length = j := by simp; omega
  rw [List.getElem?_append_right (by omega), hlen, Nat.sub_self, hk, List.replicate_succ]
  rfl

/-- How State's loop stands. -/
structure Sw (m : MX) (W : World) (R len j : Nat) (wr : World) : Prop where
  g : wr.heap[W.heap.size]? = some (.cells ((m.pr.take j).map (Value.int .i64) ++ List.replicate (len - j) (iV 0)).toArray 3 (0, 0))
  s : wr.heap[R + 1]? = some (.cells #[iV m.st, .string (bz m.tx), .slice (some ⟨W.heap.size, 0, none⟩) len len, iV m.jm] 62 (0, 0))
  r : wr.heap[R]? = some (.cells #[iV 0, .string (bz []), .slice none 0 0, iV 0] 62 (0, 0))
  fr : Fr (fun b => b = R + 1) W wr

set_option maxHeartbeats 3200000 in
set_option maxRecDepth 100000 in
theorem state_c (h : Mc K M w m D) (hpl : m.pr.length ≤ 1000000000) :
    Calls Tryz.prog 65 #[pT M] w fun e w' => Fr (fun _ => False) w w' ∧ ∃ pv, e = .returned (.agg #[iV m.st, .string (bz m.tx), pv, iV m.jm]) ∧ PrAt w w' pv m.pr := by
  have hP := h.pr
  obtain ⟨pa, pc, hpv⟩ := ownsRow_len hP
  rw [hpv] at hP
  have HP : Hid (w.ownsRow (M + 1) 3 1 (.slice pa m.pr.length pc) m.pr.length (m.pr.map (.int .i64))) := hP
  clear hP
  obtain ⟨k, n, p, pr, bd, q, r, hV, hb⟩ := h.cells
  obtain ⟨⟨c0, c1, c2, c3, c4, c5, c6, c7, c8, c9, c10, c11, c12, c13, c14, c15, c16⟩, hf⟩ := mc17 hb
  have f1 := hf 1; have f2 := hf 2; have f3 := hf 3; have f4 := hf 4; have f5 := hf 5; have f6 := hf 6; have f7 := hf 7; have f8 := hf 8; have f9 := hf 9; have f10 := hf 10; have f11 := hf 11; have f12 := hf 12; have f13 := hf 13; have f14 := hf 14; have f15 := hf 15; have f16 := hf 16
  have hl := blk_lt hb
  have H : Hid (Mc K M w m D) := h
  have HB : Hid (w.heap[M]? = some (.cells #[pT K.cb, D.iv, .bool m.lk, iV m.ex, D.sp, iV k, iV n, p, iV pr, iV bd, q, r, D.wp, iV m.st, .string (bz m.tx), D.pv, iV m.jm] 198 (0, 0))) := hb
  have HV : Hid (D.V = vCells k n p pr bd q r) := hV
  clear h hb hf hV
  rw [hpv] at c15
  clear hpv
  go_enter Tryz.func65, Tryz.ntmps65
  go_wp2_with fail
  go_region
  have hF0 : Fr (fun _ => False) w ((w.alloc (.cells #[iV 0, .string (bz []), .slice none 0 0, iV 0] 62)).alloc (.cells #[iV m.st, .string (bz m.tx), .slice none 0 0, iV m.jm] 62)).drew := (by repeat (first | with_reducible exact Fr.refl _ _ | (with_reducible refine Fr.drew ?_) | (with_reducible refine Fr.drewN ?_ _) | (with_reducible refine Fr.alloc ?_ _) | ((with_reducible refine Fr.setCell ?_ ?_ _); rotate_left; first | exact .inl rfl | exact .inr (Nat.le_refl _) | exact .inl (Nat.le_refl _) | (focus (left; simp; done)) | (focus (left; simp; omega)) | (focus (left; omega)) | (focus (right; simp; done)) | (focus (right; simp; omega)) | (focus (right; omega))) | exact Fr.refl _ _))
  have b1 := blk_new w (.cells #[iV 0, .string (bz []), .slice none 0 0, iV 0] 62)
  have b2 := blk_new (w.alloc (.cells #[iV 0, .string (bz []), .slice none 0 0, iV 0] 62)) (.cells #[iV m.st, .string (bz m.tx), .slice none 0 0, iV m.jm] 62)
  rw [show (w.alloc (.cells #[iV 0, .string (bz []), .slice none 0 0, iV 0] 62)).heap.size = w.heap.size + 1 by simp] at b2
  have b3 := (Below.heap_alloc (w.alloc (.cells #[iV 0, .string (bz []), .slice none 0 0, iV 0] 62)) (.cells #[iV m.st, .string (bz m.tx), .slice none 0 0, iV m.jm] 62) w.heap.size (by simp)).trans b1
  have b2' : ((w.alloc (.cells #[iV 0, .string (bz []), .slice none 0 0, iV 0] 62)).alloc (.cells #[iV m.st, .string (bz m.tx), .slice none 0 0, iV m.jm] 62)).drew.heap[w.heap.size + 1]? = _ := b2
  have b3' : ((w.alloc (.cells #[iV 0, .string (bz []), .slice none 0 0, iV 0] 62)).alloc (.cells #[iV m.st, .string (bz m.tx), .slice none 0 0, iV m.jm] 62)).drew.heap[w.heap.size]? = _ := b3
  have b4 : ((w.alloc (.cells #[iV 0, .string (bz []), .slice none 0 0, iV 0] 62)).alloc (.cells #[iV m.st, .string (bz m.tx), .slice none 0 0, iV m.jm] 62)).drew.heap.size = w.heap.size + 1 + 1 := by show ((w.alloc (.cells #[iV 0, .string (bz []), .slice none 0 0, iV 0] 62)).alloc (.cells #[iV m.st, .string (bz m.tx), .slice none 0 0, iV m.jm] 62)).heap.size = _; simp
  generalize ((w.alloc (.cells #[iV 0, .string (bz []), .slice none 0 0, iV 0] 62)).alloc (.cells #[iV m.st, .string (bz m.tx), .slice none 0 0, iV m.jm] 62)).drew = W at hF0 b2' b3' b4 ⊢
  have HMW : Hid (Mc K M W m D) := H.out.fr hF0
  have HPW : Hid (W.ownsRow (M + 1) 3 1 (.slice pa m.pr.length pc) m.pr.length (m.pr.map (.int .i64))) := rowKeep hF0 HP.out (fun _ _ h => h)
  have HF0 : Hid (Fr (fun _ => False) w W) := hF0
  have HR0 : Hid (W.heap[w.heap.size]? = some (.cells #[iV 0, .string (bz []), .slice none 0 0, iV 0] 62 (0, 0))) := b3'
  have HS0 : Hid (W.heap[w.heap.size + 1]? = some (.cells #[iV m.st, .string (bz m.tx), .slice none 0 0, iV m.jm] 62 (0, 0))) := b2'
  have HMl : Hid (M < w.heap.size) := hl
  clear c0 c1 c2 c3 c4 c5 c6 c7 c8 c9 c10 c11 c12 c13 c14 c16 f1 f2 f3 f4 f5 f6 f7 f8 f9 f10 f11 f12 f13 f14 f15 f16
  have c15W := (World.cell?_of_block (w := w) (a := ⟨M, 15, none⟩) (hF0.block M hl id)).trans c15
  have hlW := Nat.lt_of_lt_of_le hl hF0.size
  clear c15 hl b1 b2 b3 hF0
  obtain ⟨⟨s0, s1, s2, s3⟩, sf0, sf1, sf2, sf3⟩ := cells4 b2'
  obtain ⟨⟨r0, r1, r2, r3⟩, rf0, rf1, rf2, rf3⟩ := cells4 b3'
  have sl := blk_lt b2'
  have rl := blk_lt b3'
  clear b2' b3'
  by_cases hp0 : m.pr = []
  · have hp1 : m.pr.length = 0 := by rw [hp0]; rfl
    rw [hp1] at c15W
    have HP0 : Hid (m.pr = []) := hp0
    clear hp0 hp1
    go_wp2_with fail
    go_loopg [4] 0 (fun k iv wr => iv = .int .i64 0 ∧ wr = W)
    case atStart => exact ⟨rfl, rfl⟩
    case round =>
      obtain ⟨rfl, rfl⟩ := hrel
      go_wp2_with fail
      (try simp only [Exit.inBlock, Exit.then])
      refine bodyPost_ret (v := .agg #[iV m.st, .string (bz m.tx), .slice none 0 0, iV m.jm]) ?_ rfl ⟨(by repeat (first | with_reducible exact HF0.out | (with_reducible refine Fr.drew ?_) | (with_reducible refine Fr.drewN ?_ _) | (with_reducible refine Fr.alloc ?_ _) | ((with_reducible refine Fr.setCell ?_ ?_ _); rotate_left; first | exact .inl rfl | exact .inr (Nat.le_refl _) | exact .inl (Nat.le_refl _) | (focus (left; simp; done)) | (focus (left; simp; omega)) | (focus (left; omega)) | (focus (right; simp; done)) | (focus (right; simp; omega)) | (focus (right; omega))))), _, rfl, .inl ⟨HP0.out, rfl⟩⟩
      rw [results_cell rfl]
      go_simp
  · have HP0 : Hid (m.pr ≠ []) := hp0
    have hpos : 0 < m.pr.length := List.length_pos_iff.2 hp0
    have hmk := run_make_row' (P := Tryz.prog) 34 3 (.int .i64 0) 8 Tryz.underlying34 infoI rfl .i64 .i64 m.pr.length (by omega) (by omega)
    have q0 : (0 : Int) < (m.pr.length : Int) := by omega
    have HB4 : Hid (W.heap.size = w.heap.size + 1 + 1) := b4
    clear hp0 b4
    go_wp2_with fail
    have HC0 : Hid (Sw m W w.heap.size (m.pr.length) 0 ((W.setCell ⟨w.heap.size + 1, 2, none⟩ (.slice (some ⟨W.heap.size, 0, none⟩) m.pr.length m.pr.length)).alloc (.cells (madeCells #[.int .i64 0] m.pr.length) 3))) := by
      have g1 := blk_set (i := 2) (v := (.slice (some ⟨W.heap.size, 0, none⟩) m.pr.length m.pr.length)) (c' := #[iV m.st, .string (bz m.tx), (.slice (some ⟨W.heap.size, 0, none⟩) m.pr.length m.pr.length), iV m.jm]) HS0.out rfl
      have g2 := blk_new (W.setCell ⟨w.heap.size + 1, 2, none⟩ (.slice (some ⟨W.heap.size, 0, none⟩) m.pr.length m.pr.length)) (.cells (madeCells #[.int .i64 0] m.pr.length) 3)
      rw [show (W.setCell ⟨w.heap.size + 1, 2, none⟩ (.slice (some ⟨W.heap.size, 0, none⟩) m.pr.length m.pr.length)).heap.size = W.heap.size by simp, made_ints] at g2
      rw [made_ints]
      refine ⟨?_, (Below.heap_alloc _ _ _ (by simp; omega)).trans g1, ?_, (by repeat (first | with_reducible exact Fr.refl _ _ | (with_reducible refine Fr.drew ?_) | (with_reducible refine Fr.drewN ?_ _) | (with_reducible refine Fr.alloc ?_ _) | ((with_reducible refine Fr.setCell ?_ ?_ _); rotate_left; first | exact .inl rfl | exact .inr (Nat.le_refl _) | exact .inl (Nat.le_refl _) | (focus (left; simp; done)) | (focus (left; simp; omega)) | (focus (left; omega)) | (focus (right; simp; done)) | (focus (right; simp; omega)) | (focus (right; omega))) | exact Fr.refl _ _))⟩
      · simpa using g2
      · rw [Below.heap_alloc _ _ _ (by simp; omega), Below.heap_setCell _ _ _ _ (by simp)]
        exact HR0.out
    clear hmk
    go_loopg [4] m.pr.length (fun k iv wr => ∃ (j : Nat), iv = .int .i64 j ∧ j ≤ m.pr.length ∧ k = m.pr.length - j ∧ Sw m W w.heap.size m.pr.length j wr)
    case atStart => exact ⟨0, rfl, Nat.zero_le _, rfl, HC0.out⟩
    case round =>
      obtain ⟨j, rfl, hj, hk, hS⟩ := hrel
      have HM : Hid (gk = m.pr.length - j) := hk
      have HS : Hid (Sw m W w.heap.size m.pr.length j wr) := hS
      clear s0 s1 s2 s3 r0 r1 r2 r3 sf0 sf1 sf2 sf3 rf0 rf1 rf2 rf3 sl rl
      obtain ⟨⟨s0, s1, s2, s3⟩, sf0, sf1, sf2, sf3⟩ := cells4 hS.s
      obtain ⟨⟨r0, r1, r2, r3⟩, rf0, rf1, rf2, rf3⟩ := cells4 hS.r
      have sl := blk_lt hS.s
      have rl := blk_lt hS.r
      have gl := blk_lt hS.g
      have mM := hS.fr.block M hlW (by have := HMl.out; omega)
      have c15r := (World.cell?_of_block (w := W) (a := ⟨M, 15, none⟩) mM).trans c15W
      have mlr : M < wr.heap.size := Nat.lt_of_lt_of_le hlW hS.fr.size
      by_cases hjl : j < m.pr.length
      · obtain ⟨pg, pcap, hpe, cp, hpg⟩ := rowInt HPW.out hjl
        injection hpe with hpa hpl2 hpc
        clear hpl2
        subst hpa hpc
        obtain ⟨cur, hcur⟩ := row_blk HPW.out (b := pg) rfl
        have hpb := hS.fr.block pg hpg (fun e => by subst e; exact absurd (ty_eq hcur HS0.out) (by decide))
        have cpr := (World.cell?_of_block (w := W) (a := ⟨pg, j, none⟩) hpb).trans cp
        have hpgr : pg < wr.heap.size := Nat.lt_of_lt_of_le hpg hS.fr.size
        have cg : wr.cell? ⟨W.heap.size, j, none⟩ = some (iV 0) := by
          have hli := st_get m.pr j hjl
          have h0 := hS.g
          simp only [World.cell?, h0]
          simpa using hli
        have fg : wr.frozen? ⟨W.heap.size, j, none⟩ = false := by simp [World.frozen?, hS.g]
        have q1 : (j : Int) < (m.pr.length : Int) := by omega
        obtain ⟨xj, hxj⟩ : ∃ x, m.pr.getD j 0 = x := ⟨_, rfl⟩
        rw [hxj] at cpr
        have HXJ : Hid (m.pr.getD j 0 = xj) := hxj
        clear hk hS mM hcur hpb cp hpg hxj
        go_wp2_with fail
        go_region
        go_wp2_with fail
        go_roundg (m.pr.length - (j + 1))
        case measure => rw [HM.out]; omega
        case rel =>
          have hFj : Fr (fun b => b = W.heap.size) wr (wr.setCell ⟨W.heap.size, j, none⟩ (iV xj)).drew := (by repeat (first | with_reducible exact Fr.refl _ _ | (with_reducible refine Fr.drew ?_) | (with_reducible refine Fr.drewN ?_ _) | (with_reducible refine Fr.alloc ?_ _) | ((with_reducible refine Fr.setCell ?_ ?_ _); rotate_left; first | exact .inl rfl | exact .inr (Nat.le_refl _) | exact .inl (Nat.le_refl _) | (focus (left; simp; done)) | (focus (left; simp; omega)) | (focus (left; omega)) | (focus (right; simp; done)) | (focus (right; simp; omega)) | (focus (right; omega))) | exact Fr.refl _ _))
          have hne : W.heap.size ≠ w.heap.size + 1 ∧ W.heap.size ≠ w.heap.size := by have := HB4.out; omega
          refine ⟨j + 1, by go_num, by omega, rfl, ?_, ?_, ?_, ?_⟩
          · exact blk_set HS.out.g (by rw [← HXJ.out]; exact st_set m.pr j hjl)
          · exact (hFj.block _ sl (fun e => hne.1 e.symm)).trans HS.out.s
          · exact (hFj.block _ rl (fun e => hne.2 e.symm)).trans HS.out.r
          · exact HS.out.fr.trans hFj (fun b (hb : b = W.heap.size) => .inr (by omega))
      · obtain rfl : j = m.pr.length := by omega
        clear hk hS mM
        go_wp2_with fail
        (try simp only [Exit.inBlock, Exit.then])
        refine bodyPost_ret (v := .agg #[iV m.st, .string (bz m.tx), (.slice (some ⟨W.heap.size, 0, none⟩) m.pr.length m.pr.length), iV m.jm]) ?_ rfl ⟨?_, _, rfl, .inr ⟨HP0.out, W.heap.size, by have := HB4.out; omega, rfl, ?_⟩⟩
        · rw [results_cell rfl]
          go_simp
        · have hFz : Fr (fun _ => False) w wr := HF0.out.trans HS.out.fr (fun b hb => .inr (by omega))
          exact (by repeat (first | with_reducible exact hFz | (with_reducible refine Fr.drew ?_) | (with_reducible refine Fr.drewN ?_ _) | (with_reducible refine Fr.alloc ?_ _) | ((with_reducible refine Fr.setCell ?_ ?_ _); rotate_left; first | exact .inl rfl | exact .inr (Nat.le_refl _) | exact .inl (Nat.le_refl _) | (focus (left; simp; done)) | (focus (left; simp; omega)) | (focus (left; omega)) | (focus (right; simp; done)) | (focus (right; simp; omega)) | (focus (right; omega)))))
        · have hne : W.heap.size ≠ w.heap.size := by have := HB4.out; omega
          have hg := HS.out.g
          simp only [List.take_length, Nat.sub_self, List.replicate_zero, List.append_nil] at hg
          rw [Below.heap_setCell _ _ _ _ hne, Below.heap_setCell _ _ _ _ hne, Below.heap_setCell _ _ _ _ hne, Below.heap_setCell _ _ _ _ hne]
          exact hg
end
end Go.Proofs.YtklimomeendajaaGreatDoor

/- resume: Type, Start, Go, State. -/
namespace Go.Proofs.YtklimomeendajaaGreatDoor
open Go.RowKit

section
variable {K : MC} {M : Nat} {w w' : World} {m m' : MX} {D D' : MD} {f : Nat}

set_option maxHeartbeats 800000 in
set_option maxRecDepth 100000 in
theorem type_c {pb : Nat} {o : List UInt8} {x : Value} (h : w.heap[pb]? = some (.cells #[.string (bs o), x] 87 (0, 0))) :
    Calls Tryz.prog 31 #[pT pb] w fun e w' => w' = w ∧ e = .returned (.string (bs o)) := by
  have c0 : w.cell? ⟨pb, 0, none⟩ = some (.string (bs o)) := by simp [World.cell?, h]
  have hl := blk_lt h
  clear h
  go_enter Tryz.func31, Tryz.ntmps31
  go_wp2_with fail
  go_ret
  exact ⟨rfl, rfl⟩

set_option maxHeartbeats 800000 in
set_option maxRecDepth 100000 in
theorem areNumbers_c0 :
    Calls Tryz.prog 63 #[.slice none 0 0] w fun e w' => w' = w ∧ e = .returned (.bool true) := by
  go_enter Tryz.func63, Tryz.ntmps63
  go_wp2_with fail
  go_loopg [3] 0 (fun k iv wr => iv = .int .i64 0 ∧ wr = w)
  case atStart => exact ⟨rfl, rfl⟩
  case round =>
    obtain ⟨rfl, rfl⟩ := hrel
    go_wp2_with fail
    go_ret
    exact ⟨rfl, rfl⟩

set_option maxHeartbeats 1600000 in
set_option maxRecDepth 100000 in
theorem start_c0 {pb : Nat} {o : List UInt8} (h : w.heap[pb]? = some (.cells #[.string (bs o), pT K.cb] 87 (0, 0))) (hK : K.at w) (htb : TB w) {n : Int} (hn : 16 ≤ n) (hn2 : n ≤ 262144) :
    Calls Tryz.prog 32 #[pT pb, .slice none 0 0, iV n] w fun e w' => Fr (fun _ => False) w w' ∧ ∃ rb M D, e = .returned (.tuple #[pT rb, iV 0]) ∧ w.heap.size ≤ M ∧ w.heap.size ≤ rb ∧ w'.heap[rb]? = some (.cells #[pT M] 128 (0, 0)) ∧ Mc K M w' (kStart K.c.root []) D ∧ D.pv = .slice none 0 0 := by
  have c1 : w.cell? ⟨pb, 1, none⟩ = some (pT K.cb) := by simp [World.cell?, h]
  have hl := blk_lt h
  have HK : Hid (K.at w) := hK
  have HT : Hid (TB w) := htb
  have q1 : ¬ (n < 16) := by omega
  have q2 : ¬ (262144 < n) := by omega
  clear h hK htb hn hn2
  go_enter Tryz.func32, Tryz.ntmps32
  go_wp2_with (go_at_call 63; refine areNumbers_c0.mono ?_; rintro e1 w1 ⟨rfl, rfl⟩)
  refine (new_c0 HK.out HT.out).mono ?_
  rintro e2 w2 ⟨M, D, rfl, hM, hF, hMc, hD⟩
  have HF : Hid (Fr (fun _ => False) w1 w2) := hF
  have HMc : Hid (Mc K M w2 (kStart K.c.root []) D) := hMc
  have HM : Hid (w1.heap.size ≤ M ∧ D.pv = .slice none 0 0) := ⟨hM, hD⟩
  clear hM hF hMc hD
  go_wp2_with fail
  go_ret2
  have hA : Fr (fun _ => False) w2 (w2.alloc (.cells #[pT M] 128)) := (Fr.refl _ _).alloc _
  exact ⟨HF.out.trans hA (fun _ h => h.elim), w2.heap.size, M, D, rfl, HM.out.1, HF.out.size, blk_new w2 _, HMc.out.fr hA, HM.out.2⟩

set_option maxHeartbeats 1600000 in
set_option maxRecDepth 100000 in
theorem rgo_c {rb : Nat} (hr : w.heap[rb]? = some (.cells #[pT M] 128 (0, 0))) (h : Mc K M w m D) {n : Nat} (hn : n ≤ 4000) (hx : kGoes K.c.t K.c.ms K.c.kp f n m = some m') :
    Calls Tryz.prog 34 #[pT rb, iV n] w fun e w' => e = .returned (iV 0) ∧ Mn K M w D w' m' ∧ w'.heap[rb]? = some (.cells #[pT M] 128 (0, 0)) := by
  have c0 : w.cell? ⟨rb, 0, none⟩ = some (pT M) := by simp [World.cell?, hr]
  have hl := blk_lt hr
  have HR : Hid (w.heap[rb]? = some (.cells #[pT M] 128 (0, 0))) := hr
  have H : Hid (Mc K M w m D) := h
  have HX : Hid (kGoes K.c.t K.c.ms K.c.kp f n m = some m') := hx
  have q1 : ¬ ((n : Int) < 0) := by omega
  have q2 : ¬ (4000 < (n : Int)) := by omega
  clear hr h hx
  go_enter Tryz.func34, Tryz.ntmps34
  go_wp2_with fail
  refine (go_c H.out (by omega) HX.out).mono ?_
  rintro e1 w1 ⟨rfl, hN⟩
  have HN : Hid (Mn K M w D w1 m') := hN
  clear hN
  go_wp2_with fail
  go_ret
  refine ⟨rfl, HN.out, ?_⟩
  obtain ⟨D2, _, hF, _⟩ := HN.out
  refine (hF.block rb (blk_lt HR.out) (fun e => ?_)).trans HR.out
  rcases e with e | e
  · exact absurd (ty_eq HR.out (e ▸ H.out.blk)) (by decide)
  · obtain ⟨cur, hc⟩ := row_blk H.out.pr e
    exact absurd (ty_eq HR.out hc) (by decide)

set_option maxHeartbeats 1600000 in
set_option maxRecDepth 100000 in
theorem rstate_c {rb : Nat} (hr : w.heap[rb]? = some (.cells #[pT M] 128 (0, 0))) (h : Mc K M w m D) (hpl : m.pr.length ≤ 1000000000) :
    Calls Tryz.prog 33 #[pT rb] w fun e w' => Fr (fun _ => False) w w' ∧ ∃ pv, e = .returned (.agg #[iV m.st, .string (bz m.tx), pv, iV m.jm]) ∧ PrAt w w' pv m.pr := by
  have c0 : w.cell? ⟨rb, 0, none⟩ = some (pT M) := by simp [World.cell?, hr]
  have hl := blk_lt hr
  have H : Hid (Mc K M w m D) := h
  have HF0 : Hid (Fr (fun _ => False) w (w.alloc (.cells #[iV 0, .string (bz []), .slice none 0 0, iV 0] 62))) := (Fr.refl _ w).alloc _
  have HB0 : Hid ((w.alloc (.cells #[iV 0, .string (bz []), .slice none 0 0, iV 0] 62)).heap[w.heap.size]? = some (.cells #[iV 0, .string (bz []), .slice none 0 0, iV 0] 62 (0, 0))) := blk_new w _
  clear hr h
  go_enter Tryz.func33, Tryz.ntmps33
  go_wp2_with fail
  refine (state_c (H.out.fr HF0.out) hpl).mono ?_
  rintro e1 w1 ⟨hF, pv, rfl, hP⟩
  have hb := (hF.block _ (blk_lt HB0.out) id).trans HB0.out
  obtain ⟨⟨r0, r1, r2, r3⟩, rf0, rf1, rf2, rf3⟩ := cells4 hb
  have rl := blk_lt hb
  have HF : Hid (Fr (fun _ => False) w w1) := HF0.out.trans hF (fun _ h => h.elim)
  obtain ⟨pa, pn, pc, rfl⟩ : ∃ p q r, pv = .slice p q r := by rcases hP with ⟨_, rfl⟩ | ⟨_, _, _, rfl, _⟩ <;> exact ⟨_, _, _, rfl⟩
  have HP : Hid (PrAt (w.alloc (.cells #[iV 0, .string (bz []), .slice none 0 0, iV 0] 62)) w1 (.slice pa pn pc) m.pr) := hP
  clear hF hb hP
  go_wp2_with fail
  (try simp only [Exit.inBlock, Exit.then])
  refine bodyPost_ret (v := .agg #[iV m.st, .string (bz m.tx), .slice pa pn pc, iV m.jm]) ?_ rfl ⟨(by repeat (first | with_reducible exact HF.out | (with_reducible refine Fr.drew ?_) | (with_reducible refine Fr.drewN ?_ _) | (with_reducible refine Fr.alloc ?_ _) | ((with_reducible refine Fr.setCell ?_ ?_ _); rotate_left; first | exact .inl rfl | exact .inr (Nat.le_refl _) | exact .inl (Nat.le_refl _) | (focus (left; simp; done)) | (focus (left; simp; omega)) | (focus (left; omega)) | (focus (right; simp; done)) | (focus (right; simp; omega)) | (focus (right; omega))))), _, rfl, ?_⟩
  · rw [results_cell rfl]
    go_simp
  · rcases HP.out with h | ⟨h1, g, h2, h3, h4⟩
    · exact .inl h
    · have hne : g ≠ w.heap.size := by simp at h2; omega
      refine .inr ⟨h1, g, by simp at h2; omega, h3, ?_⟩
      rw [Below.heap_setCell _ _ _ _ hne, Below.heap_setCell _ _ _ _ hne, Below.heap_setCell _ _ _ _ hne, Below.heap_setCell _ _ _ _ hne]
      exact h4
end
end Go.Proofs.YtklimomeendajaaGreatDoor
