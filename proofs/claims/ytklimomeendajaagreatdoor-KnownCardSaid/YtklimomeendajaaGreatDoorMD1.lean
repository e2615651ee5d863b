import Derived.BigRegion
import Derived.Test.YtklimomeendajaaGreatDoorMD0
set_option linter.unusedVariables false
set_option linter.unusedSimpArgs false
/- machine: comeBack. -/
namespace Go.Proofs.YtklimomeendajaaGreatDoor
open Go.RowKit

section
variable {K : MC} {M : Nat} {w w' : World} {m m' : MX} {D D' : MD} {nu bi e1 e2 e3 : Int} {fs : List (Int × Int × Int)} {am : List (Int × Int)} {f : Nat} {i : Int} {b : Bool} {v1 s1 nx : Code}

set_option maxHeartbeats 3200000 in
set_option maxRecDepth 100000 in
theorem back_10 (h : Mc K M w m D) (hwt : m.wt = wMk i b v1 s1 nx) (he : expAt K.c.t i = some ⟨10, nu, bi, e1, e2, e3, fs, am⟩) (hx : kIn { m with wt := nx } s1 bi m.val e2 = m') :
    Calls Tryz.prog 92 #[pT M] w fun e w' => e = .returned (.tuple #[]) ∧ Mn K M w D w' m' := by
  have hlw := h.wt
  rw [hwt] at hlw
  obtain ⟨g, ku, nu', pu, pru, bdu, qu, ru, ps, pn, hwp, hg, hv1, hs1, hn⟩ := wt_blk hlw
  obtain ⟨k, n, p, pr, bd, q, r, hV, hb⟩ := h.cells
  have hval := h.val
  rw [hV] at hval
  obtain ⟨⟨o1, rfl⟩, ⟨o2, rfl⟩, o3, rfl⟩ := val_ptrs hval
  obtain ⟨⟨c0, c1, c2, c3, c4, c5, c6, c7, c8, c9, c10, c11, c12, c13, c14, c15, c16⟩, hf⟩ := mc17 hb
  have f12 := hf 12
  have hl := blk_lt hb
  rw [hwp] at c12
  obtain ⟨z0, z1, z2, z3, z4, z5, z6, z7, z8, z9, z10⟩ := wt_cells hg
  have zl := blk_lt hg
  obtain ⟨hMS, hFS⟩ := h.setWt hn
  have HX : Hid (kIn { m with wt := nx } s1 bi m.val e2 = m') := hx
  have HE : Hid (expAt K.c.t i = some ⟨10, nu, bi, e1, e2, e3, fs, am⟩) := he
  obtain ⟨W, hW⟩ : ∃ W, W = (w.setCell ⟨M, 12, none⟩ (.pointer pn)).alloc (.cells #[iV k, iV n, .pointer o1, iV pr, iV bd, .pointer o2, .pointer o3] 196) := ⟨_, rfl⟩
  have hFA : Fr (fun _ => False) (w.setCell ⟨M, 12, none⟩ (.pointer pn)) W := by rw [hW]; exact (Fr.refl _ _).alloc _
  have hFW : Fr (fun b => b = M) w W := hFS.trans hFA (fun _ h => h.elim)
  have hkW := h.kpM hFW
  have HFW : Hid (Fr (fun b => b = M) w W) := hFW
  have HW : Hid (W = (w.setCell ⟨M, 12, none⟩ (.pointer pn)).alloc (.cells #[iV k, iV n, .pointer o1, iV pr, iV bd, .pointer o2, .pointer o3] 196)) := hW
  have HM : Hid (Mc K M W { m with wt := nx } { D with wp := .pointer pn }) := hMS.fr hFA
  have HVv : Hid (Lies W m.val 0 (vCells k n (.pointer o1) pr bd (.pointer o2) (.pointer o3))) := hval.keep hkW
  have HV1 : Hid (Lies W v1 0 (vCells ku nu' (.pointer pu) pru bdu (.pointer qu) (.pointer ru))) := hv1.keep hkW
  have HS1 : Hid (Lies W s1 1 [.pointer ps]) := hs1.keep hkW
  have HN1 : Hid (Lies W nx 2 [.pointer pn]) := hn.keep hkW
  have HLW : Hid (Lies W (wMk i b v1 s1 nx) 2 [pT g]) := by show Lies _ _ _ _; rw [← hwp]; exact hlw.keep hkW
  have HG : Hid (W.heap[g]? = some (.cells #[iV i, .pointer ps, .bool b, iV ku, iV nu', .pointer pu, iV pru, iV bdu, .pointer qu, .pointer ru, .pointer pn] 250 (0, 0))) := (hFW.block g (blk_lt hg) (fun e => by subst e; exact absurd (ty_eq hg hb) (by decide))).trans hg
  have b1 := blk_new (w.setCell ⟨M, 12, none⟩ (.pointer pn)) (.cells #[iV k, iV n, .pointer o1, iV pr, iV bd, .pointer o2, .pointer o3] 196)
  rw [show (w.setCell ⟨M, 12, none⟩ (.pointer pn)).heap.size = w.heap.size by simp, ← hW] at b1
  have HBV : Hid (W.heap[w.heap.size]? = some (.cells #[iV k, iV n, .pointer o1, iV pr, iV bd, .pointer o2, .pointer o3] 196 (0, 0))) := b1
  clear h hwt he hx hlw hval hg hv1 hs1 hn hV hb hf hMS hFS hW hFA hFW hkW b1 hwp
  go_enter Tryz.func92, Tryz.ntmps92
  go_upto_region 3 with fail
  rw [← HW.out]
  clear c0 c1 c2 c3 c4 c5 c6 c7 c8 c9 c10 c11 c12 c13 c14 c15 c16 f12 hl z0 z1 z2 z3 z4 z5 z6 z7 z8 z9 z10 zl
  obtain ⟨z0, z1, z2, z3, z4, z5, z6, z7, z8, z9, z10⟩ := wt_cells HG.out
  have zl := blk_lt HG.out
  obtain ⟨_, _, _, _, _, _, _, -, hb⟩ := HM.out.cells
  obtain ⟨⟨c0, -⟩, -⟩ := mc17 hb
  have hl := blk_lt hb
  obtain ⟨eg, ecap, j, fa, aa, fc, ac, hij, ⟨hj1, hj2, hj3, hj4, hj5⟩, ⟨x0, x1, x2, x3, x4, x5, x6, x7⟩, -, hAr⟩ := HM.out.ex HE.out
  have HIJ : Hid (i = (j : Int)) := hij
  rw [hij] at z0
  have HAr : Hid (W.ownsRow 0 264 2 (.slice aa am.length ac) am.length (armCells am)) := hAr
  clear hb hij hAr
  go_region
  have hFX : Fr (fun _ => False) W (W.alloc (.cells #[iV 10, iV nu, iV bi, iV e1, iV e2, iV e3, .slice fa fs.length fc, .slice aa am.length ac] 162)).drew := (by repeat (first | with_reducible exact Fr.refl _ _ | (with_reducible refine Fr.drew ?_) | (with_reducible refine Fr.drewN ?_ _) | (with_reducible refine Fr.alloc ?_ _) | ((with_reducible refine Fr.setCell ?_ ?_ _); rotate_left; first | exact .inl rfl | exact .inr (Nat.le_refl _) | exact .inl (Nat.le_refl _) | (focus (left; simp; done)) | (focus (left; simp; omega)) | (focus (left; omega)) | (focus (right; simp; done)) | (focus (right; simp; omega)) | (focus (right; omega))) | exact Fr.refl _ _))
  have e1' : (W.alloc (.cells #[iV 10, iV nu, iV bi, iV e1, iV e2, iV e3, .slice fa fs.length fc, .slice aa am.length ac] 162)).drew.heap[W.heap.size]? = some (.cells #[iV 10, iV nu, iV bi, iV e1, iV e2, iV e3, .slice fa fs.length fc, .slice aa am.length ac] 162 (0, 0)) := blk_new W _
  generalize (W.alloc (.cells #[iV 10, iV nu, iV bi, iV e1, iV e2, iV e3, .slice fa fs.length fc, .slice aa am.length ac] 162)).drew = X at hFX e1' ⊢
  have hkX : Kp W X := hFX.kp fun _ _ _ h => h.elim
  have HFX : Hid (Fr (fun _ => False) W X) := hFX
  have HMX : Hid (Mc K M X { m with wt := nx } { D with wp := .pointer pn }) := HM.out.fr hFX
  have HVX : Hid (Lies X m.val 0 (vCells k n (.pointer o1) pr bd (.pointer o2) (.pointer o3))) := HVv.out.keep hkX
  have HSX : Hid (Lies X s1 1 [.pointer ps]) := HS1.out.keep hkX
  have HNX : Hid (Lies X nx 2 [.pointer pn]) := HN1.out.keep hkX
  have HLX : Hid (Lies X (wMk i b v1 s1 nx) 2 [pT g]) := HLW.out.keep hkX
  have HArX : Hid (X.ownsRow 0 264 2 (.slice aa am.length ac) am.length (armCells am)) := rowKeep hFX HAr.out (fun _ _ h => h)
  have hgX := (hFX.block g (blk_lt HG.out) id).trans HG.out
  have hvX := (hFX.block _ (blk_lt HBV.out) id).trans HBV.out
  have HBVX : Hid (X.heap[w.heap.size]? = some (.cells #[iV k, iV n, .pointer o1, iV pr, iV bd, .pointer o2, .pointer o3] 196 (0, 0))) := hvX
  clear z0 z1 z2 z3 z4 z5 z6 z7 z8 z9 z10 zl c0 hl hj1 hj2 hj3 hj4 hj5 x0 x1 x2 x3 x4 x5 x6 x7
  obtain ⟨z0, z1, z2, z3, z4, z5, z6, z7, z8, z9, z10⟩ := wt_cells hgX
  have zl := blk_lt hgX
  obtain ⟨⟨s0, s1', s2, s3, s4, s5, s6⟩, -⟩ := cells7 hvX
  have sl := blk_lt hvX
  obtain ⟨t0, t1, t2, t3, t4, t5, t6, t7⟩ := cells8 e1'
  have tl := blk_lt e1'
  obtain ⟨ck, cn, cp, cpr, cbd, cq, cr, hDV, hbX⟩ := HMX.out.cells
  have HBX : Hid _ := hbX
  have HDV : Hid _ := hDV
  obtain ⟨⟨c0, c1, c2, c3, c4, c5, c6, c7, c8, c9, c10, c11, c12, c13, c14, c15, c16⟩, hfX⟩ := mc17 hbX
  have f15 := hfX 15
  have hl := blk_lt hbX
  have HFd : Hid (Fr (fun _ => False) X X.drew) := by show Fr _ _ _; exact (by repeat (first | with_reducible exact Fr.refl _ _ | (with_reducible refine Fr.drew ?_) | (with_reducible refine Fr.drewN ?_ _) | (with_reducible refine Fr.alloc ?_ _) | ((with_reducible refine Fr.setCell ?_ ?_ _); rotate_left; first | exact .inl rfl | exact .inr (Nat.le_refl _) | exact .inl (Nat.le_refl _) | (focus (left; simp; done)) | (focus (left; simp; omega)) | (focus (left; omega)) | (focus (right; simp; done)) | (focus (right; simp; omega)) | (focus (right; omega))) | exact Fr.refl _ _))
  have HKd : Hid (Kp X X.drew) := HFd.out.kp fun _ _ _ h => h.elim
  clear hgX hvX hFX hkX e1' hbX hfX hDV c1 c2 c3 c4 c5 c6 c7 c8 c9 c10 c11 c13 c14 c16
  go_wp2_with fail
  refine region_tail 10 mixed (by kernel_rfl) ?_
  simp only [List.take_succ_cons, List.take_zero, List.drop_succ_cons, List.drop_zero]
  repeat still_step
  refine wpStill_nil ?_
  go_wp2_with fail
  refine (within_c (HMX.out.fr HFd.out) (HSX.out.keep HKd.out) (HVX.out.keep HKd.out)).mono ?_
  rintro r1 w1 ⟨rfl, hN⟩
  have HN : Hid (Mn K M w D w1 m') := by
    show Mn _ _ _ _ _ _
    rw [← HX.out]
    exact ((hN.pre HFd.out).pre HFX.out).step HFW.out rfl
  clear hN
  go_wp2_with fail
  (first | go_end0 | ((try simp only [Exit.inBlock, Exit.then]); refine bodyPost_ret (results_none rfl _ _ _) rfl ?_))
  exact ⟨rfl, HN.out⟩

set_option maxHeartbeats 3200000 in
set_option maxRecDepth 100000 in
theorem back_13 (h : Mc K M w m D) (hwt : m.wt = wMk i b v1 s1 nx) (he : expAt K.c.t i = some ⟨13, nu, bi, e1, e2, e3, fs, am⟩) (hx : kLook { m with wt := nx } (if vN m.val = 1 then e2 else e3) s1 = m') :
    Calls Tryz.prog 92 #[pT M] w fun e w' => e = .returned (.tuple #[]) ∧ Mn K M w D w' m' := by
  have hlw := h.wt
  rw [hwt] at hlw
  obtain ⟨g, ku, nu', pu, pru, bdu, qu, ru, ps, pn, hwp, hg, hv1, hs1, hn⟩ := wt_blk hlw
  obtain ⟨k, n, p, pr, bd, q, r, hV, hb⟩ := h.cells
  have hval := h.val
  rw [hV] at hval
  obtain ⟨⟨o1, rfl⟩, ⟨o2, rfl⟩, o3, rfl⟩ := val_ptrs hval
  obtain ⟨⟨c0, c1, c2, c3, c4, c5, c6, c7, c8, c9, c10, c11, c12, c13, c14, c15, c16⟩, hf⟩ := mc17 hb
  have f12 := hf 12
  have hl := blk_lt hb
  rw [hwp] at c12
  obtain ⟨z0, z1, z2, z3, z4, z5, z6, z7, z8, z9, z10⟩ := wt_cells hg
  have zl := blk_lt hg
  obtain ⟨hMS, hFS⟩ := h.setWt hn
  have HX : Hid (kLook { m with wt := nx } (if vN m.val = 1 then e2 else e3) s1 = m') := hx
  have HE : Hid (expAt K.c.t i = some ⟨13, nu, bi, e1, e2, e3, fs, am⟩) := he
  obtain ⟨W, hW⟩ : ∃ W, W = (w.setCell ⟨M, 12, none⟩ (.pointer pn)).alloc (.cells #[iV k, iV n, .pointer o1, iV pr, iV bd, .pointer o2, .pointer o3] 196) := ⟨_, rfl⟩
  have hFA : Fr (fun _ => False) (w.setCell ⟨M, 12, none⟩ (.pointer pn)) W := by rw [hW]; exact (Fr.refl _ _).alloc _
  have hFW : Fr (fun b => b = M) w W := hFS.trans hFA (fun _ h => h.elim)
  have hkW := h.kpM hFW
  have HFW : Hid (Fr (fun b => b = M) w W) := hFW
  have HW : Hid (W = (w.setCell ⟨M, 12, none⟩ (.pointer pn)).alloc (.cells #[iV k, iV n, .pointer o1, iV pr, iV bd, .pointer o2, .pointer o3] 196)) := hW
  have HM : Hid (Mc K M W { m with wt := nx } { D with wp := .pointer pn }) := hMS.fr hFA
  have HVv : Hid (Lies W m.val 0 (vCells k n (.pointer o1) pr bd (.pointer o2) (.pointer o3))) := hval.keep hkW
  have HV1 : Hid (Lies W v1 0 (vCells ku nu' (.pointer pu) pru bdu (.pointer qu) (.pointer ru))) := hv1.keep hkW
  have HS1 : Hid (Lies W s1 1 [.pointer ps]) := hs1.keep hkW
  have HN1 : Hid (Lies W nx 2 [.pointer pn]) := hn.keep hkW
  have HLW : Hid (Lies W (wMk i b v1 s1 nx) 2 [pT g]) := by show Lies _ _ _ _; rw [← hwp]; exact hlw.keep hkW
  have HG : Hid (W.heap[g]? = some (.cells #[iV i, .pointer ps, .bool b, iV ku, iV nu', .pointer pu, iV pru, iV bdu, .pointer qu, .pointer ru, .pointer pn] 250 (0, 0))) := (hFW.block g (blk_lt hg) (fun e => by subst e; exact absurd (ty_eq hg hb) (by decide))).trans hg
  have b1 := blk_new (w.setCell ⟨M, 12, none⟩ (.pointer pn)) (.cells #[iV k, iV n, .pointer o1, iV pr, iV bd, .pointer o2, .pointer o3] 196)
  rw [show (w.setCell ⟨M, 12, none⟩ (.pointer pn)).heap.size = w.heap.size by simp, ← hW] at b1
  have HBV : Hid (W.heap[w.heap.size]? = some (.cells #[iV k, iV n, .pointer o1, iV pr, iV bd, .pointer o2, .pointer o3] 196 (0, 0))) := b1
  clear h hwt he hx hlw hval hg hv1 hs1 hn hV hb hf hMS hFS hW hFA hFW hkW b1 hwp
  go_enter Tryz.func92, Tryz.ntmps92
  go_upto_region 3 with fail
  rw [← HW.out]
  clear c0 c1 c2 c3 c4 c5 c6 c7 c8 c9 c10 c11 c12 c13 c14 c15 c16 f12 hl z0 z1 z2 z3 z4 z5 z6 z7 z8 z9 z10 zl
  obtain ⟨z0, z1, z2, z3, z4, z5, z6, z7, z8, z9, z10⟩ := wt_cells HG.out
  have zl := blk_lt HG.out
  obtain ⟨_, _, _, _, _, _, _, -, hb⟩ := HM.out.cells
  obtain ⟨⟨c0, -⟩, -⟩ := mc17 hb
  have hl := blk_lt hb
  obtain ⟨eg, ecap, j, fa, aa, fc, ac, hij, ⟨hj1, hj2, hj3, hj4, hj5⟩, ⟨x0, x1, x2, x3, x4, x5, x6, x7⟩, -, hAr⟩ := HM.out.ex HE.out
  have HIJ : Hid (i = (j : Int)) := hij
  rw [hij] at z0
  have HAr : Hid (W.ownsRow 0 264 2 (.slice aa am.length ac) am.length (armCells am)) := hAr
  clear hb hij hAr
  go_region
  have hFX : Fr (fun _ => False) W (W.alloc (.cells #[iV 13, iV nu, iV bi, iV e1, iV e2, iV e3, .slice fa fs.length fc, .slice aa am.length ac] 162)).drew := (by repeat (first | with_reducible exact Fr.refl _ _ | (with_reducible refine Fr.drew ?_) | (with_reducible refine Fr.drewN ?_ _) | (with_reducible refine Fr.alloc ?_ _) | ((with_reducible refine Fr.setCell ?_ ?_ _); rotate_left; first | exact .inl rfl | exact .inr (Nat.le_refl _) | exact .inl (Nat.le_refl _) | (focus (left; simp; done)) | (focus (left; simp; omega)) | (focus (left; omega)) | (focus (right; simp; done)) | (focus (right; simp; omega)) | (focus (right; omega))) | exact Fr.refl _ _))
  have e1' : (W.alloc (.cells #[iV 13, iV nu, iV bi, iV e1, iV e2, iV e3, .slice fa fs.length fc, .slice aa am.length ac] 162)).drew.heap[W.heap.size]? = some (.cells #[iV 13, iV nu, iV bi, iV e1, iV e2, iV e3, .slice fa fs.length fc, .slice aa am.length ac] 162 (0, 0)) := blk_new W _
  generalize (W.alloc (.cells #[iV 13, iV nu, iV bi, iV e1, iV e2, iV e3, .slice fa fs.length fc, .slice aa am.length ac] 162)).drew = X at hFX e1' ⊢
  have hkX : Kp W X := hFX.kp fun _ _ _ h => h.elim
  have HFX : Hid (Fr (fun _ => False) W X) := hFX
  have HMX : Hid (Mc K M X { m with wt := nx } { D with wp := .pointer pn }) := HM.out.fr hFX
  have HVX : Hid (Lies X m.val 0 (vCells k n (.pointer o1) pr bd (.pointer o2) (.pointer o3))) := HVv.out.keep hkX
  have HSX : Hid (Lies X s1 1 [.pointer ps]) := HS1.out.keep hkX
  have HNX : Hid (Lies X nx 2 [.pointer pn]) := HN1.out.keep hkX
  have HLX : Hid (Lies X (wMk i b v1 s1 nx) 2 [pT g]) := HLW.out.keep hkX
  have HArX : Hid (X.ownsRow 0 264 2 (.slice aa am.length ac) am.length (armCells am)) := rowKeep hFX HAr.out (fun _ _ h => h)
  have hgX := (hFX.block g (blk_lt HG.out) id).trans HG.out
  have hvX := (hFX.block _ (blk_lt HBV.out) id).trans HBV.out
  have HBVX : Hid (X.heap[w.heap.size]? = some (.cells #[iV k, iV n, .pointer o1, iV pr, iV bd, .pointer o2, .pointer o3] 196 (0, 0))) := hvX
  clear z0 z1 z2 z3 z4 z5 z6 z7 z8 z9 z10 zl c0 hl hj1 hj2 hj3 hj4 hj5 x0 x1 x2 x3 x4 x5 x6 x7
  obtain ⟨z0, z1, z2, z3, z4, z5, z6, z7, z8, z9, z10⟩ := wt_cells hgX
  have zl := blk_lt hgX
  obtain ⟨⟨s0, s1', s2, s3, s4, s5, s6⟩, -⟩ := cells7 hvX
  have sl := blk_lt hvX
  obtain ⟨t0, t1, t2, t3, t4, t5, t6, t7⟩ := cells8 e1'
  have tl := blk_lt e1'
  obtain ⟨ck, cn, cp, cpr, cbd, cq, cr, hDV, hbX⟩ := HMX.out.cells
  have HBX : Hid _ := hbX
  have HDV : Hid _ := hDV
  obtain ⟨⟨c0, c1, c2, c3, c4, c5, c6, c7, c8, c9, c10, c11, c12, c13, c14, c15, c16⟩, hfX⟩ := mc17 hbX
  have f15 := hfX 15
  have hl := blk_lt hbX
  have HFd : Hid (Fr (fun _ => False) X X.drew) := by show Fr _ _ _; exact (by repeat (first | with_reducible exact Fr.refl _ _ | (with_reducible refine Fr.drew ?_) | (with_reducible refine Fr.drewN ?_ _) | (with_reducible refine Fr.alloc ?_ _) | ((with_reducible refine Fr.setCell ?_ ?_ _); rotate_left; first | exact .inl rfl | exact .inr (Nat.le_refl _) | exact .inl (Nat.le_refl _) | (focus (left; simp; done)) | (focus (left; simp; omega)) | (focus (left; omega)) | (focus (right; simp; done)) | (focus (right; simp; omega)) | (focus (right; omega))) | exact Fr.refl _ _))
  have HKd : Hid (Kp X X.drew) := HFd.out.kp fun _ _ _ h => h.elim
  clear hgX hvX hFX hkX e1' hbX hfX hDV c1 c2 c3 c4 c5 c6 c7 c8 c9 c10 c11 c13 c14 c16
  go_wp2_with fail
  refine region_tail 7 mixed (by kernel_rfl) ?_
  simp only [List.take_succ_cons, List.take_zero, List.drop_succ_cons, List.drop_zero]
  repeat still_step
  refine wpStill_nil ?_
  go_wp2_with fail
  refine (choose_c (HMX.out.fr HFd.out) (HVX.out.keep HKd.out) (HSX.out.keep HKd.out)).mono ?_
  rintro r1 w1 ⟨rfl, hN⟩
  have HN : Hid (Mn K M w D w1 m') := by
    show Mn _ _ _ _ _ _
    rw [← HX.out]
    exact ((hN.pre HFd.out).pre HFX.out).step HFW.out rfl
  clear hN
  go_wp2_with fail
  (first | go_end0 | ((try simp only [Exit.inBlock, Exit.then]); refine bodyPost_ret (results_none rfl _ _ _) rfl ?_))
  exact ⟨rfl, HN.out⟩

set_option maxHeartbeats 3200000 in
set_option maxRecDepth 100000 in
theorem back_14 (h : Mc K M w m D) (hwt : m.wt = wMk i b v1 s1 nx) (he : expAt K.c.t i = some ⟨14, nu, bi, e1, e2, e3, fs, am⟩) (hx : kMatch K.c.t f m.val s1 am { m with wt := nx } = some m') :
    Calls Tryz.prog 92 #[pT M] w fun e w' => e = .returned (.tuple #[]) ∧ Mn K M w D w' m' := by
  have hlw := h.wt
  rw [hwt] at hlw
  obtain ⟨g, ku, nu', pu, pru, bdu, qu, ru, ps, pn, hwp, hg, hv1, hs1, hn⟩ := wt_blk hlw
  obtain ⟨k, n, p, pr, bd, q, r, hV, hb⟩ := h.cells
  have hval := h.val
  rw [hV] at hval
  obtain ⟨⟨o1, rfl⟩, ⟨o2, rfl⟩, o3, rfl⟩ := val_ptrs hval
  obtain ⟨⟨c0, c1, c2, c3, c4, c5, c6, c7, c8, c9, c10, c11, c12, c13, c14, c15, c16⟩, hf⟩ := mc17 hb
  have f12 := hf 12
  have hl := blk_lt hb
  rw [hwp] at c12
  obtain ⟨z0, z1, z2, z3, z4, z5, z6, z7, z8, z9, z10⟩ := wt_cells hg
  have zl := blk_lt hg
  obtain ⟨hMS, hFS⟩ := h.setWt hn
  have HX : Hid (kMatch K.c.t f m.val s1 am { m with wt := nx } = some m') := hx
  have HE : Hid (expAt K.c.t i = some ⟨14, nu, bi, e1, e2, e3, fs, am⟩) := he
  obtain ⟨W, hW⟩ : ∃ W, W = (w.setCell ⟨M, 12, none⟩ (.pointer pn)).alloc (.cells #[iV k, iV n, .pointer o1, iV pr, iV bd, .pointer o2, .pointer o3] 196) := ⟨_, rfl⟩
  have hFA : Fr (fun _ => False) (w.setCell ⟨M, 12, none⟩ (.pointer pn)) W := by rw [hW]; exact (Fr.refl _ _).alloc _
  have hFW : Fr (fun b => b = M) w W := hFS.trans hFA (fun _ h => h.elim)
  have hkW := h.kpM hFW
  have HFW : Hid (Fr (fun b => b = M) w W) := hFW
  have HW : Hid (W = (w.setCell ⟨M, 12, none⟩ (.pointer pn)).alloc (.cells #[iV k, iV n, .pointer o1, iV pr, iV bd, .pointer o2, .pointer o3] 196)) := hW
  have HM : Hid (Mc K M W { m with wt := nx } { D with wp := .pointer pn }) := hMS.fr hFA
  have HVv : Hid (Lies W m.val 0 (vCells k n (.pointer o1) pr bd (.pointer o2) (.pointer o3))) := hval.keep hkW
  have HV1 : Hid (Lies W v1 0 (vCells ku nu' (.pointer pu) pru bdu (.pointer qu) (.pointer ru))) := hv1.keep hkW
  have HS1 : Hid (Lies W s1 1 [.pointer ps]) := hs1.keep hkW
  have HN1 : Hid (Lies W nx 2 [.pointer pn]) := hn.keep hkW
  have HLW : Hid (Lies W (wMk i b v1 s1 nx) 2 [pT g]) := by show Lies _ _ _ _; rw [← hwp]; exact hlw.keep hkW
  have HG : Hid (W.heap[g]? = some (.cells #[iV i, .pointer ps, .bool b, iV ku, iV nu', .pointer pu, iV pru, iV bdu, .pointer qu, .pointer ru, .pointer pn] 250 (0, 0))) := (hFW.block g (blk_lt hg) (fun e => by subst e; exact absurd (ty_eq hg hb) (by decide))).trans hg
  have b1 := blk_new (w.setCell ⟨M, 12, none⟩ (.pointer pn)) (.cells #[iV k, iV n, .pointer o1, iV pr, iV bd, .pointer o2, .pointer o3] 196)
  rw [show (w.setCell ⟨M, 12, none⟩ (.pointer pn)).heap.size = w.heap.size by simp, ← hW] at b1
  have HBV : Hid (W.heap[w.heap.size]? = some (.cells #[iV k, iV n, .pointer o1, iV pr, iV bd, .pointer o2, .pointer o3] 196 (0, 0))) := b1
  clear h hwt he hx hlw hval hg hv1 hs1 hn hV hb hf hMS hFS hW hFA hFW hkW b1 hwp
  go_enter Tryz.func92, Tryz.ntmps92
  go_upto_region 3 with fail
  rw [← HW.out]
  clear c0 c1 c2 c3 c4 c5 c6 c7 c8 c9 c10 c11 c12 c13 c14 c15 c16 f12 hl z0 z1 z2 z3 z4 z5 z6 z7 z8 z9 z10 zl
  obtain ⟨z0, z1, z2, z3, z4, z5, z6, z7, z8, z9, z10⟩ := wt_cells HG.out
  have zl := blk_lt HG.out
  obtain ⟨_, _, _, _, _, _, _, -, hb⟩ := HM.out.cells
  obtain ⟨⟨c0, -⟩, -⟩ := mc17 hb
  have hl := blk_lt hb
  obtain ⟨eg, ecap, j, fa, aa, fc, ac, hij, ⟨hj1, hj2, hj3, hj4, hj5⟩, ⟨x0, x1, x2, x3, x4, x5, x6, x7⟩, -, hAr⟩ := HM.out.ex HE.out
  have HIJ : Hid (i = (j : Int)) := hij
  rw [hij] at z0
  have HAr : Hid (W.ownsRow 0 264 2 (.slice aa am.length ac) am.length (armCells am)) := hAr
  clear hb hij hAr
  go_region
  have hFX : Fr (fun _ => False) W (W.alloc (.cells #[iV 14, iV nu, iV bi, iV e1, iV e2, iV e3, .slice fa fs.length fc, .slice aa am.length ac] 162)).drew := (by repeat (first | with_reducible exact Fr.refl _ _ | (with_reducible refine Fr.drew ?_) | (with_reducible refine Fr.drewN ?_ _) | (with_reducible refine Fr.alloc ?_ _) | ((with_reducible refine Fr.setCell ?_ ?_ _); rotate_left; first | exact .inl rfl | exact .inr (Nat.le_refl _) | exact .inl (Nat.le_refl _) | (focus (left; simp; done)) | (focus (left; simp; omega)) | (focus (left; omega)) | (focus (right; simp; done)) | (focus (right; simp; omega)) | (focus (right; omega))) | exact Fr.refl _ _))
  have e1' : (W.alloc (.cells #[iV 14, iV nu, iV bi, iV e1, iV e2, iV e3, .slice fa fs.length fc, .slice aa am.length ac] 162)).drew.heap[W.heap.size]? = some (.cells #[iV 14, iV nu, iV bi, iV e1, iV e2, iV e3, .slice fa fs.length fc, .slice aa am.length ac] 162 (0, 0)) := blk_new W _
  generalize (W.alloc (.cells #[iV 14, iV nu, iV bi, iV e1, iV e2, iV e3, .slice fa fs.length fc, .slice aa am.length ac] 162)).drew = X at hFX e1' ⊢
  have hkX : Kp W X := hFX.kp fun _ _ _ h => h.elim
  have HFX : Hid (Fr (fun _ => False) W X) := hFX
  have HMX : Hid (Mc K M X { m with wt := nx } { D with wp := .pointer pn }) := HM.out.fr hFX
  have HVX : Hid (Lies X m.val 0 (vCells k n (.pointer o1) pr bd (.pointer o2) (.pointer o3))) := HVv.out.keep hkX
  have HSX : Hid (Lies X s1 1 [.pointer ps]) := HS1.out.keep hkX
  have HNX : Hid (Lies X nx 2 [.pointer pn]) := HN1.out.keep hkX
  have HLX : Hid (Lies X (wMk i b v1 s1 nx) 2 [pT g]) := HLW.out.keep hkX
  have HArX : Hid (X.ownsRow 0 264 2 (.slice aa am.length ac) am.length (armCells am)) := rowKeep hFX HAr.out (fun _ _ h => h)
  have hgX := (hFX.block g (blk_lt HG.out) id).trans HG.out
  have hvX := (hFX.block _ (blk_lt HBV.out) id).trans HBV.out
  have HBVX : Hid (X.heap[w.heap.size]? = some (.cells #[iV k, iV n, .pointer o1, iV pr, iV bd, .pointer o2, .pointer o3] 196 (0, 0))) := hvX
  clear z0 z1 z2 z3 z4 z5 z6 z7 z8 z9 z10 zl c0 hl hj1 hj2 hj3 hj4 hj5 x0 x1 x2 x3 x4 x5 x6 x7
  obtain ⟨z0, z1, z2, z3, z4, z5, z6, z7, z8, z9, z10⟩ := wt_cells hgX
  have zl := blk_lt hgX
  obtain ⟨⟨s0, s1', s2, s3, s4, s5, s6⟩, -⟩ := cells7 hvX
  have sl := blk_lt hvX
  obtain ⟨t0, t1, t2, t3, t4, t5, t6, t7⟩ := cells8 e1'
  have tl := blk_lt e1'
  obtain ⟨ck, cn, cp, cpr, cbd, cq, cr, hDV, hbX⟩ := HMX.out.cells
  have HBX : Hid _ := hbX
  have HDV : Hid _ := hDV
  obtain ⟨⟨c0, c1, c2, c3, c4, c5, c6, c7, c8, c9, c10, c11, c12, c13, c14, c15, c16⟩, hfX⟩ := mc17 hbX
  have f15 := hfX 15
  have hl := blk_lt hbX
  have HFd : Hid (Fr (fun _ => False) X X.drew) := by show Fr _ _ _; exact (by repeat (first | with_reducible exact Fr.refl _ _ | (with_reducible refine Fr.drew ?_) | (with_reducible refine Fr.drewN ?_ _) | (with_reducible refine Fr.alloc ?_ _) | ((with_reducible refine Fr.setCell ?_ ?_ _); rotate_left; first | exact .inl rfl | exact .inr (Nat.le_refl _) | exact .inl (Nat.le_refl _) | (focus (left; simp; done)) | (focus (left; simp; omega)) | (focus (left; omega)) | (focus (right; simp; done)) | (focus (right; simp; omega)) | (focus (right; omega))) | exact Fr.refl _ _))
  have HKd : Hid (Kp X X.drew) := HFd.out.kp fun _ _ _ h => h.elim
  clear hgX hvX hFX hkX e1' hbX hfX hDV c1 c2 c3 c4 c5 c6 c7 c8 c9 c10 c11 c13 c14 c16
  go_wp2_with fail
  refine region_tail 8 mixed (by kernel_rfl) ?_
  simp only [List.take_succ_cons, List.take_zero, List.drop_succ_cons, List.drop_zero]
  repeat still_step
  refine wpStill_nil ?_
  go_wp2_with fail
  refine (match_c (HMX.out.fr HFd.out) (HVX.out.keep HKd.out) (HSX.out.keep HKd.out) (rowKeep HFd.out HArX.out (fun _ _ h => h)) HX.out).mono ?_
  rintro r1 w1 ⟨rfl, hN⟩
  have HN : Hid (Mn K M w D w1 m') := by
    show Mn _ _ _ _ _ _
    exact ((hN.pre HFd.out).pre HFX.out).step HFW.out rfl
  clear hN
  go_wp2_with fail
  (first | go_end0 | ((try simp only [Exit.inBlock, Exit.then]); refine bodyPost_ret (results_none rfl _ _ _) rfl ?_))
  exact ⟨rfl, HN.out⟩

set_option maxHeartbeats 3200000 in
set_option maxRecDepth 100000 in
theorem back_15 (h : Mc K M w m D) (hwt : m.wt = wMk i b v1 s1 nx) (he : expAt K.c.t i = some ⟨15, nu, bi, e1, e2, e3, fs, am⟩) (hx : kGo f { m with wt := nx } m.val = some m') :
    Calls Tryz.prog 92 #[pT M] w fun e w' => e = .returned (.tuple #[]) ∧ Mn K M w D w' m' := by
  have hlw := h.wt
  rw [hwt] at hlw
  obtain ⟨g, ku, nu', pu, pru, bdu, qu, ru, ps, pn, hwp, hg, hv1, hs1, hn⟩ := wt_blk hlw
  obtain ⟨k, n, p, pr, bd, q, r, hV, hb⟩ := h.cells
  have hval := h.val
  rw [hV] at hval
  obtain ⟨⟨o1, rfl⟩, ⟨o2, rfl⟩, o3, rfl⟩ := val_ptrs hval
  obtain ⟨⟨c0, c1, c2, c3, c4, c5, c6, c7, c8, c9, c10, c11, c12, c13, c14, c15, c16⟩, hf⟩ := mc17 hb
  have f12 := hf 12
  have hl := blk_lt hb
  rw [hwp] at c12
  obtain ⟨z0, z1, z2, z3, z4, z5, z6, z7, z8, z9, z10⟩ := wt_cells hg
  have zl := blk_lt hg
  obtain ⟨hMS, hFS⟩ := h.setWt hn
  have HX : Hid (kGo f { m with wt := nx } m.val = some m') := hx
  have HE : Hid (expAt K.c.t i = some ⟨15, nu, bi, e1, e2, e3, fs, am⟩) := he
  obtain ⟨W, hW⟩ : ∃ W, W = (w.setCell ⟨M, 12, none⟩ (.pointer pn)).alloc (.cells #[iV k, iV n, .pointer o1, iV pr, iV bd, .pointer o2, .pointer o3] 196) := ⟨_, rfl⟩
  have hFA : Fr (fun _ => False) (w.setCell ⟨M, 12, none⟩ (.pointer pn)) W := by rw [hW]; exact (Fr.refl _ _).alloc _
  have hFW : Fr (fun b => b = M) w W := hFS.trans hFA (fun _ h => h.elim)
  have hkW := h.kpM hFW
  have HFW : Hid (Fr (fun b => b = M) w W) := hFW
  have HW : Hid (W = (w.setCell ⟨M, 12, none⟩ (.pointer pn)).alloc (.cells #[iV k, iV n, .pointer o1, iV pr, iV bd, .pointer o2, .pointer o3] 196)) := hW
  have HM : Hid (Mc K M W { m with wt := nx } { D with wp := .pointer pn }) := hMS.fr hFA
  have HVv : Hid (Lies W m.val 0 (vCells k n (.pointer o1) pr bd (.pointer o2) (.pointer o3))) := hval.keep hkW
  have HV1 : Hid (Lies W v1 0 (vCells ku nu' (.pointer pu) pru bdu (.pointer qu) (.pointer ru))) := hv1.keep hkW
  have HS1 : Hid (Lies W s1 1 [.pointer ps]) := hs1.keep hkW
  have HN1 : Hid (Lies W nx 2 [.pointer pn]) := hn.keep hkW
  have HLW : Hid (Lies W (wMk i b v1 s1 nx) 2 [pT g]) := by show Lies _ _ _ _; rw [← hwp]; exact hlw.keep hkW
  have HG : Hid (W.heap[g]? = some (.cells #[iV i, .pointer ps, .bool b, iV ku, iV nu', .pointer pu, iV pru, iV bdu, .pointer qu, .pointer ru, .pointer pn] 250 (0, 0))) := (hFW.block g (blk_lt hg) (fun e => by subst e; exact absurd (ty_eq hg hb) (by decide))).trans hg
  have b1 := blk_new (w.setCell ⟨M, 12, none⟩ (.pointer pn)) (.cells #[iV k, iV n, .pointer o1, iV pr, iV bd, .pointer o2, .pointer o3] 196)
  rw [show (w.setCell ⟨M, 12, none⟩ (.pointer pn)).heap.size = w.heap.size by simp, ← hW] at b1
  have HBV : Hid (W.heap[w.heap.size]? = some (.cells #[iV k, iV n, .pointer o1, iV pr, iV bd, .pointer o2, .pointer o3] 196 (0, 0))) := b1
  clear h hwt he hx hlw hval hg hv1 hs1 hn hV hb hf hMS hFS hW hFA hFW hkW b1 hwp
  go_enter Tryz.func92, Tryz.ntmps92
  go_upto_region 3 with fail
  rw [← HW.out]
  clear c0 c1 c2 c3 c4 c5 c6 c7 c8 c9 c10 c11 c12 c13 c14 c15 c16 f12 hl z0 z1 z2 z3 z4 z5 z6 z7 z8 z9 z10 zl
  obtain ⟨z0, z1, z2, z3, z4, z5, z6, z7, z8, z9, z10⟩ := wt_cells HG.out
  have zl := blk_lt HG.out
  obtain ⟨_, _, _, _, _, _, _, -, hb⟩ := HM.out.cells
  obtain ⟨⟨c0, -⟩, -⟩ := mc17 hb
  have hl := blk_lt hb
  obtain ⟨eg, ecap, j, fa, aa, fc, ac, hij, ⟨hj1, hj2, hj3, hj4, hj5⟩, ⟨x0, x1, x2, x3, x4, x5, x6, x7⟩, -, hAr⟩ := HM.out.ex HE.out
  have HIJ : Hid (i = (j : Int)) := hij
  rw [hij] at z0
  have HAr : Hid (W.ownsRow 0 264 2 (.slice aa am.length ac) am.length (armCells am)) := hAr
  clear hb hij hAr
  go_region
  have hFX : Fr (fun _ => False) W (W.alloc (.cells #[iV 15, iV nu, iV bi, iV e1, iV e2, iV e3, .slice fa fs.length fc, .slice aa am.length ac] 162)).drew := (by repeat (first | with_reducible exact Fr.refl _ _ | (with_reducible refine Fr.drew ?_) | (with_reducible refine Fr.drewN ?_ _) | (with_reducible refine Fr.alloc ?_ _) | ((with_reducible refine Fr.setCell ?_ ?_ _); rotate_left; first | exact .inl rfl | exact .inr (Nat.le_refl _) | exact .inl (Nat.le_refl _) | (focus (left; simp; done)) | (focus (left; simp; omega)) | (focus (left; omega)) | (focus (right; simp; done)) | (focus (right; simp; omega)) | (focus (right; omega))) | exact Fr.refl _ _))
  have e1' : (W.alloc (.cells #[iV 15, iV nu, iV bi, iV e1, iV e2, iV e3, .slice fa fs.length fc, .slice aa am.length ac] 162)).drew.heap[W.heap.size]? = some (.cells #[iV 15, iV nu, iV bi, iV e1, iV e2, iV e3, .slice fa fs.length fc, .slice aa am.length ac] 162 (0, 0)) := blk_new W _
  generalize (W.alloc (.cells #[iV 15, iV nu, iV bi, iV e1, iV e2, iV e3, .slice fa fs.length fc, .slice aa am.length ac] 162)).drew = X at hFX e1' ⊢
  have hkX : Kp W X := hFX.kp fun _ _ _ h => h.elim
  have HFX : Hid (Fr (fun _ => False) W X) := hFX
  have HMX : Hid (Mc K M X { m with wt := nx } { D with wp := .pointer pn }) := HM.out.fr hFX
  have HVX : Hid (Lies X m.val 0 (vCells k n (.pointer o1) pr bd (.pointer o2) (.pointer o3))) := HVv.out.keep hkX
  have HSX : Hid (Lies X s1 1 [.pointer ps]) := HS1.out.keep hkX
  have HNX : Hid (Lies X nx 2 [.pointer pn]) := HN1.out.keep hkX
  have HLX : Hid (Lies X (wMk i b v1 s1 nx) 2 [pT g]) := HLW.out.keep hkX
  have HArX : Hid (X.ownsRow 0 264 2 (.slice aa am.length ac) am.length (armCells am)) := rowKeep hFX HAr.out (fun _ _ h => h)
  have hgX := (hFX.block g (blk_lt HG.out) id).trans HG.out
  have hvX := (hFX.block _ (blk_lt HBV.out) id).trans HBV.out
  have HBVX : Hid (X.heap[w.heap.size]? = some (.cells #[iV k, iV n, .pointer o1, iV pr, iV bd, .pointer o2, .pointer o3] 196 (0, 0))) := hvX
  clear z0 z1 z2 z3 z4 z5 z6 z7 z8 z9 z10 zl c0 hl hj1 hj2 hj3 hj4 hj5 x0 x1 x2 x3 x4 x5 x6 x7
  obtain ⟨z0, z1, z2, z3, z4, z5, z6, z7, z8, z9, z10⟩ := wt_cells hgX
  have zl := blk_lt hgX
  obtain ⟨⟨s0, s1', s2, s3, s4, s5, s6⟩, -⟩ := cells7 hvX
  have sl := blk_lt hvX
  obtain ⟨t0, t1, t2, t3, t4, t5, t6, t7⟩ := cells8 e1'
  have tl := blk_lt e1'
  obtain ⟨ck, cn, cp, cpr, cbd, cq, cr, hDV, hbX⟩ := HMX.out.cells
  have HBX : Hid _ := hbX
  have HDV : Hid _ := hDV
  obtain ⟨⟨c0, c1, c2, c3, c4, c5, c6, c7, c8, c9, c10, c11, c12, c13, c14, c15, c16⟩, hfX⟩ := mc17 hbX
  have f15 := hfX 15
  have hl := blk_lt hbX
  have HFd : Hid (Fr (fun _ => False) X X.drew) := by show Fr _ _ _; exact (by repeat (first | with_reducible exact Fr.refl _ _ | (with_reducible refine Fr.drew ?_) | (with_reducible refine Fr.drewN ?_ _) | (with_reducible refine Fr.alloc ?_ _) | ((with_reducible refine Fr.setCell ?_ ?_ _); rotate_left; first | exact .inl rfl | exact .inr (Nat.le_refl _) | exact .inl (Nat.le_refl _) | (focus (left; simp; done)) | (focus (left; simp; omega)) | (focus (left; omega)) | (focus (right; simp; done)) | (focus (right; simp; omega)) | (focus (right; omega))) | exact Fr.refl _ _))
  have HKd : Hid (Kp X X.drew) := HFd.out.kp fun _ _ _ h => h.elim
  clear hgX hvX hFX hkX e1' hbX hfX hDV c1 c2 c3 c4 c5 c6 c7 c8 c9 c10 c11 c13 c14 c16
  go_wp2_with fail
  refine (goOn_c HMX.out HVX.out HX.out).mono ?_
  rintro r1 w1 ⟨rfl, hN⟩
  have HN : Hid (Mn K M w D w1 m') := by
    show Mn _ _ _ _ _ _
    exact (hN.pre HFX.out).step HFW.out rfl
  clear hN
  go_wp2_with fail
  (first | go_end0 | ((try simp only [Exit.inBlock, Exit.then]); refine bodyPost_ret (results_none rfl _ _ _) rfl ?_))
  exact ⟨rfl, HN.out⟩
end
end Go.Proofs.YtklimomeendajaaGreatDoor
