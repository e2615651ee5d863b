import Derived.Test.YtklimomeendajaaGreatDoorMC6
set_option linter.unusedVariables false
set_option linter.unusedSimpArgs false
/- machine: function. -/
namespace Go.Proofs.YtklimomeendajaaGreatDoor
open Go.RowKit

/-- A function of a let rec that is in sight. -/
def kFunc (t : RS) (b l : Int) (o : Code) (binder : Int) : Option (Option Code) :=
  if b = -1 then (expAt t l).bind fun x => some ((x.funs.find? fun g => g.1 == binder).map fun g => vFun g.2.1 g.2.2 o) else some none

theorem fr_drew0 (O : Nat → Prop) (w : World) : Fr O w.drew w := ⟨rfl, rfl, rfl, Nat.le_refl _, fun _ _ _ => rfl⟩

section
variable {K : MC} {M : Nat} {w w' : World} {m m' : MX} {D D' : MD}

set_option maxHeartbeats 3200000 in
set_option maxRecDepth 100000 in
theorem function_c (h : Mc K M w m D) {b l binder : Int} {v o nx : Code} {x : Value} (hs : Lies w (sMk b l v o nx) 1 [x]) {rs : Option Code} (hx : kFunc K.c.t b l (kOwn (sMk b l v o nx)) binder = some rs) :
    Calls Tryz.prog 211 #[pT M, x, iV binder] w fun e w' => Fr (fun _ => False) w w' ∧ ∃ V, e = .returned (.tuple #[.agg V.toArray, .bool rs.isSome]) ∧ Lies w' (rs.getD v0) 0 V := by
  have HS : Hid (Lies w (sMk b l v o nx) 1 [x]) := hs
  obtain ⟨g, kv, nv, pv, prv, bdv, qv, rv, po, pn, rfl, hg, -, -, -⟩ := sg_blk hs
  obtain ⟨z0, z1, z2, z3, z4, z5, z6, z7, z8, z9, z10⟩ := wt_cells hg
  have zl := blk_lt hg
  unfold kFunc at hx
  have hF0 : Fr (fun _ => False) w (w.alloc (.cells #[iV 0, iV 0, pN, iV 0, iV 0, pN, pN] 196)) := (Fr.refl _ w).alloc _
  have HF0 : Hid (Fr (fun _ => False) w (w.alloc (.cells #[iV 0, iV 0, pN, iV 0, iV 0, pN, pN] 196))) := hF0
  clear hs hg hF0
  by_cases hb : b = -1
  · rw [if_pos hb] at hx
    subst hb
    obtain ⟨⟨ek, nu, bi, e1, e2, e3, fs, am⟩, he, hx⟩ := bindO hx
    injection hx with hx
    obtain ⟨eg, ecap, j, fa, aa, fc, ac, rfl, ⟨hj1, hj2, hj3, hj4, hj5⟩, ⟨x0, x1, x2, x3, x4, x5, x6, x7⟩, hfr, -⟩ := h.ex he
    have HFR : Hid (w.ownsRow 0 165 3 (.slice fa fs.length fc) fs.length (funCells fs)) := hfr
    have hfl := row_le hfr
    have HX : Hid _ := hx
    clear hfr he hx
    obtain ⟨k, n, p, pr, bd, q, r, hV, hb⟩ := h.cells
    obtain ⟨⟨c0, c1, c2, c3, c4, c5, c6, c7, c8, c9, c10, c11, c12, c13, c14, c15, c16⟩, hf⟩ := mc17 hb
    have f1 := hf 1; have f2 := hf 2; have f3 := hf 3; have f4 := hf 4; have f5 := hf 5; have f6 := hf 6; have f7 := hf 7; have f8 := hf 8; have f9 := hf 9; have f10 := hf 10; have f11 := hf 11; have f12 := hf 12; have f13 := hf 13; have f14 := hf 14; have f15 := hf 15; have f16 := hf 16
    have hl := blk_lt hb
    have H : Hid (Mc K M w m D) := h
    have HB : Hid (w.heap[M]? = some (.cells #[pT K.cb, D.iv, .bool m.lk, iV m.ex, D.sp, iV k, iV n, p, iV pr, iV bd, q, r, D.wp, iV m.st, .string (bz m.tx), D.pv, iV m.jm] 198 (0, 0))) := hb
    have HV : Hid (D.V = vCells k n p pr bd q r) := hV
    clear h hb hf hV
    go_enter Tryz.func211, Tryz.ntmps211
    go_wp2_with fail
    refine region_tail 15 mixed (by kernel_rfl) ?_
    simp only [List.take_succ_cons, List.take_zero, List.drop_succ_cons, List.drop_zero]
    repeat still_step
    refine wpStill_nil ?_
    go_wp2_with fail
    have hBZ := blk_new w (.cells #[iV 0, iV 0, pN, iV 0, iV 0, pN, pN] 196)
    have HFd : Hid (Fr (fun _ => False) w (w.alloc (.cells #[iV 0, iV 0, pN, iV 0, iV 0, pN, pN] 196)).drew) := by show Fr _ _ _; exact (by repeat (first | with_reducible exact Fr.refl _ _ | (with_reducible refine Fr.drew ?_) | (with_reducible refine Fr.drewN ?_ _) | (with_reducible refine Fr.alloc ?_ _) | ((with_reducible refine Fr.setCell ?_ ?_ _); rotate_left; first | exact .inl rfl | exact .inr (Nat.le_refl _) | exact .inl (Nat.le_refl _) | (focus (left; simp; done)) | (focus (left; simp; omega)) | (focus (left; omega)) | (focus (right; simp; done)) | (focus (right; simp; omega)) | (focus (right; omega))) | exact Fr.refl _ _))
    have HBZ : Hid ((w.alloc (.cells #[iV 0, iV 0, pN, iV 0, iV 0, pN, pN] 196)).drew.heap[w.heap.size]? = some (.cells #[iV 0, iV 0, pN, iV 0, iV 0, pN, pN] 196 (0, 0))) := hBZ
    generalize (w.alloc (.cells #[iV 0, iV 0, pN, iV 0, iV 0, pN, pN] 196)).drew = W at HFd HBZ ⊢
    have HFW : Hid (W.ownsRow 0 165 3 (.slice fa fs.length fc) fs.length (funCells fs)) := rowKeep HFd.out HFR.out (fun _ _ h => h)
    have HSW : Hid (Lies W (sMk (-1) j v o nx) 1 [pT g]) := HS.out.keep (HFd.out.kp fun _ _ _ h => h.elim)
    clear hBZ
    go_loopg [9] fs.length (fun k iv wr => ∃ (i : Nat), iv = .int .i64 i ∧ i ≤ fs.length ∧ k = fs.length - i ∧ wr = W ∧ ((fs.drop i).find? fun g => g.1 == binder).map (fun g => vFun g.2.1 g.2.2 (kOwn (sMk (-1) j v o nx))) = rs)
    case atStart => exact ⟨0, rfl, Nat.zero_le _, rfl, rfl, HX.out⟩
    case round =>
      obtain ⟨i, rfl, hi, hk, rfl, hx⟩ := hrel
      have HM : Hid (gk = fs.length - i) := hk
      clear hk
      obtain ⟨⟨t0, t1, t2, t3, t4, t5, t6⟩, tf⟩ := cells7 HBZ.out
      have tl := blk_lt HBZ.out
      have t0f := tf 0; have t1f := tf 1; have t2f := tf 2; have t3f := tf 3; have t4f := tf 4; have t5f := tf 5; have t6f := tf 6
      clear tf
      by_cases hil : i < fs.length
      · obtain ⟨fg, fcap, hfv, y0, y1, y2⟩ := funRow HFW.out hil
        injection hfv with hfa hfl2 hfc
        clear hfl2
        subst hfa hfc
        have hfgl : fg < wr.heap.size := (HFW.out.lt fg rfl).2
        have q1 : (i : Int) < (fs.length : Int) := by omega
        rw [List.drop_eq_getElem_cons hil] at hx
        obtain ⟨⟨g1, g2, g3⟩, hgi⟩ : ∃ g, fs[i] = g := ⟨_, rfl⟩
        rw [hgi] at hx y0 y1 y2
        simp only at y0 y1 y2
        clear hgi
        by_cases hgb : g1 = binder
        · subst hgb
          rw [List.find?_cons_of_pos (by simp)] at hx
          simp only [Option.map_some] at hx
          subst hx
          go_wp2_with fail
          go_region_law (rw [if_pos (by simp [Region.wanted])]; unfold Oper.wp; go_simp; go_at_call 213; refine (own_c (HSW.out.keep (Fr.kp (O := fun _ => False) (by repeat (first | with_reducible exact Fr.refl _ _ | (with_reducible refine Fr.drew ?_) | (with_reducible refine Fr.drewN ?_ _) | (with_reducible refine Fr.alloc ?_ _) | ((with_reducible refine Fr.setCell ?_ ?_ _); rotate_left; first | exact .inl rfl | exact .inr (Nat.le_refl _) | exact .inl (Nat.le_refl _) | (focus (left; simp; done)) | (focus (left; simp; omega)) | (focus (left; omega)) | (focus (right; simp; done)) | (focus (right; simp; omega)) | (focus (right; omega))) | exact Fr.refl _ _)) (fun _ _ _ h => h.elim)))).mono ?_; rintro e1 w1 ⟨rfl, p1, rfl, hp1⟩)
          all_goals
            go_wp2_with fail
            (try simp only [Exit.inBlock, Exit.then])
            refine bodyPost_ret (v := .tuple #[.agg #[iV 5, iV 0, pN, iV g2, iV g3, .pointer p1, pN], .bool true]) ?_ rfl ⟨(by repeat (first | with_reducible exact HFd.out | (with_reducible refine Fr.drew ?_) | (with_reducible refine Fr.drewN ?_ _) | (with_reducible refine Fr.alloc ?_ _) | ((with_reducible refine Fr.setCell ?_ ?_ _); rotate_left; first | exact .inl rfl | exact .inr (Nat.le_refl _) | exact .inl (Nat.le_refl _) | (focus (left; simp; done)) | (focus (left; simp; omega)) | (focus (left; omega)) | (focus (right; simp; done)) | (focus (right; simp; omega)) | (focus (right; omega))))), vCells 5 0 pN g2 g3 (.pointer p1) pN, rfl, val_in nil3 (hp1.keep (Fr.kp (O := fun b => b = w.heap.size) (by repeat (first | with_reducible exact fr_drew0 _ _ | (with_reducible refine Fr.drew ?_) | (with_reducible refine Fr.drewN ?_ _) | (with_reducible refine Fr.alloc ?_ _) | ((with_reducible refine Fr.setCell ?_ ?_ _); rotate_left; first | exact .inl rfl | exact .inr (Nat.le_refl _) | exact .inl (Nat.le_refl _) | (focus (left; simp; done)) | (focus (left; simp; omega)) | (focus (left; omega)) | (focus (right; simp; done)) | (focus (right; simp; omega)) | (focus (right; omega))))) (fun b cur ty hb hg => by subst hb; exact not_vTy HBZ.out hg vTy_value))) nil2⟩
            rw [results_cell_tmp rfl]
            go_simp
        · rw [List.find?_cons_of_neg (by simpa using hgb)] at hx
          have HX2 : Hid _ := hx
          clear hx
          go_wp2_with fail
          go_roundg (fs.length - (i + 1))
          case measure => rw [HM.out]; omega
          case rel => exact ⟨i + 1, by go_num, by omega, rfl, rfl, HX2.out⟩
      · obtain rfl : i = fs.length := by omega
        rw [List.drop_length] at hx
        simp only [List.find?_nil, Option.map_none] at hx
        subst hx
        go_wp2_with fail
        (try simp only [Exit.inBlock, Exit.then])
        refine bodyPost_ret (v := .tuple #[.agg #[iV 0, iV 0, pN, iV 0, iV 0, pN, pN], .bool false]) ?_ rfl ⟨(by repeat (first | with_reducible exact HFd.out | (with_reducible refine Fr.drew ?_) | (with_reducible refine Fr.drewN ?_ _) | (with_reducible refine Fr.alloc ?_ _) | ((with_reducible refine Fr.setCell ?_ ?_ _); rotate_left; first | exact .inl rfl | exact .inr (Nat.le_refl _) | exact .inl (Nat.le_refl _) | (focus (left; simp; done)) | (focus (left; simp; omega)) | (focus (left; omega)) | (focus (right; simp; done)) | (focus (right; simp; omega)) | (focus (right; omega))))), vCells 0 0 pN 0 0 pN pN, rfl, v0_lies⟩
        rw [results_cell_tmp rfl]
        go_simp
  · rw [if_neg hb] at hx
    injection hx with hx
    subst hx
    clear h
    go_enter Tryz.func211, Tryz.ntmps211
    go_wp2_with fail
    (try simp only [Exit.inBlock, Exit.then])
    refine bodyPost_ret (v := .tuple #[.agg #[iV 0, iV 0, pN, iV 0, iV 0, pN, pN], .bool false]) ?_ rfl ⟨HF0.out, vCells 0 0 pN 0 0 pN pN, rfl, v0_lies⟩
    rw [results_cell_tmp rfl]
    go_simp
end
end Go.Proofs.YtklimomeendajaaGreatDoor

/- machine: kept. -/
namespace Go.Proofs.YtklimomeendajaaGreatDoor
open Go.RowKit

section
variable {K : MC} {M : Nat} {w w' : World} {m m' : MX} {D D' : MD}

theorem kKeep_seq (t : RS) (u : List Bool) (b l : Int) (v o nx k : Code) : kKeep t u (sMk b l v o nx) k = if b = -1 then (expAt t l).bind fun x => (kAny u x.funs).bind fun bb => (if bb then kKeep t u nx (sMk (-1) l v0 (kOwn (sMk b l v o nx)) k) else kKeep t u nx k)
    else (getb u b).bind fun bb => if bb then kKeep t u nx (cBind b v k) else kKeep t u nx k := rfl

theorem K1At.fr {lo : Nat} {u : List Bool} {x : Value} (h : K1At w lo u x) (hF : Fr (fun _ => False) w w') : K1At w' lo u x := h.keep fun b hb => hF.block b (h.lt hb).2 id

set_option maxHeartbeats 3200000 in
set_option maxRecDepth 100000 in
theorem kept_c (h : Mc K M w m D) {u : List Bool} {x xs : Value} {lo : Nat} (hu : K1At w lo u x) {sg : Code} (hs : Lies w sg 1 [xs]) {rs : Code} (hx : kKeep K.c.t u sg .skip = some rs) :
    Calls Tryz.prog 145 #[pT M, xs, x] w fun e w' => Fr (fun _ => False) w w' ∧ ∃ p, e = .returned (.pointer p) ∧ Lies w' rs 1 [.pointer p] := by
  obtain ⟨xa, xn, xc, rfl⟩ : ∃ p q r, x = .slice p q r := by rcases hu with ⟨_, rfl⟩ | ⟨_, _, rfl, _⟩ <;> exact ⟨_, _, _, rfl⟩
  have HU : Hid (K1At w lo u (.slice xa xn xc)) := hu
  have H : Hid (Mc K M w m D) := h
  have HS : Hid (Lies w sg 1 [xs]) := hs
  have HX : Hid (kKeep K.c.t u sg .skip = some rs) := hx
  clear h hu hs hx
  go_enter Tryz.func145, Tryz.ntmps145
  go_wp2_with fail
  go_loopg [7, 8] (cLen sg) (fun k kv sv wr => ∃ (c kk : Code), k = cLen c ∧ Lies wr c 1 [sv] ∧ Lies wr kk 1 [kv] ∧ kKeep K.c.t u c kk = some rs ∧ Fr (fun _ => False) w wr)
  case atStart => exact ⟨sg, .skip, rfl, HS.out, nil1, HX.out, Fr.refl _ _⟩
  case round =>
    obtain ⟨c, kk, hk, hc, hkk, hx, hF⟩ := hrel
    have HM : Hid (gk = cLen c) := hk
    have HF : Hid (Fr (fun _ => False) w wr) := hF
    obtain ⟨ok, rfl⟩ := ptr_of hkk (.inl rfl)
    have HKK : Hid (Lies wr kk 1 [.pointer ok]) := hkk
    clear hk hF hkk HX
    rcases sg_shape hc with ⟨rfl, rfl⟩ | ⟨b, l, v, o, nx, rfl⟩
    · simp only [kKeep, Option.some.injEq] at hx
      subst hx
      clear hc
      go_wp2_with fail
      go_ret
      exact ⟨HF.out, _, rfl, HKK.out⟩
    · have HC : Hid (Lies wr (sMk b l v o nx) 1 [u8]) := hc
      rw [kKeep_seq] at hx
      obtain ⟨g, kv, nv, pv, prv, bdv, qv, rv, po, pn, rfl, hg, hv, ho, hn⟩ := sg_blk hc
      have HV : Hid (Lies wr v 0 (vCells kv nv (.pointer pv) prv bdv (.pointer qv) (.pointer rv))) := hv
      have HN : Hid (Lies wr nx 1 [.pointer pn]) := hn
      obtain ⟨z0, z1, z2, z3, z4, z5, z6, z7, z8, z9, z10⟩ := wt_cells hg
      have zl := blk_lt hg
      clear hc hg hv ho hn
      by_cases hb : b = -1
      · rw [if_pos hb] at hx
        subst hb
        obtain ⟨e, he, hx⟩ := bindO hx
        obtain ⟨bb, hbb, hx⟩ := bindO hx
        have HE : Hid (expAt K.c.t l = some e) := he
        have HBB : Hid (kAny u e.funs = some bb) := hbb
        clear he hbb
        cases bb with
        | true =>
          rw [if_pos rfl] at hx
          have HX2 : Hid _ := hx
          clear hx
          go_wp2_with fail
          refine (anyUsed_c (H.out.fr HF.out) (HU.out.fr HF.out) HE.out HBB.out).mono ?_
          rintro e1 w1 ⟨rfl, rfl⟩
          go_wp2_with fail
          go_region_law (rw [if_pos (by simp [Region.wanted])]; unfold Oper.wp; go_simp; go_at_call 213; refine (own_c (HC.out.keep (Fr.kp (O := fun _ => False) (by repeat (first | with_reducible exact Fr.refl _ _ | (with_reducible refine Fr.drew ?_) | (with_reducible refine Fr.drewN ?_ _) | (with_reducible refine Fr.alloc ?_ _) | ((with_reducible refine Fr.setCell ?_ ?_ _); rotate_left; first | exact .inl rfl | exact .inr (Nat.le_refl _) | exact .inl (Nat.le_refl _) | (focus (left; simp; done)) | (focus (left; simp; omega)) | (focus (left; omega)) | (focus (right; simp; done)) | (focus (right; simp; omega)) | (focus (right; omega))) | exact Fr.refl _ _)) (fun _ _ _ h => h.elim)))).mono ?_; rintro e1 w1 ⟨rfl, p1, rfl, hp1⟩)
          all_goals
            go_wp2_with fail
            go_roundg (cLen nx)
            case measure => rw [HM.out]; exact Nat.lt_succ_self _
            case rel =>
              have hA : Fr (fun _ => False) w1 (w1.alloc (.cells #[iV (-1), iV 0, iV 0, pN, iV 0, iV 0, pN, pN, iV l, .pointer p1, .pointer ok] 247)).drew := (by repeat (first | with_reducible exact Fr.refl _ _ | (with_reducible refine Fr.drew ?_) | (with_reducible refine Fr.drewN ?_ _) | (with_reducible refine Fr.alloc ?_ _) | ((with_reducible refine Fr.setCell ?_ ?_ _); rotate_left; first | exact .inl rfl | exact .inr (Nat.le_refl _) | exact .inl (Nat.le_refl _) | (focus (left; simp; done)) | (focus (left; simp; omega)) | (focus (left; omega)) | (focus (right; simp; done)) | (focus (right; simp; omega)) | (focus (right; omega))) | exact Fr.refl _ _))
              have hkp : Kp w1 (w1.alloc (.cells #[iV (-1), iV 0, iV 0, pN, iV 0, iV 0, pN, pN, iV l, .pointer p1, .pointer ok] 247)).drew := hA.kp fun _ _ _ h => h.elim
              exact ⟨nx, sMk (-1) l v0 (kOwn (sMk (-1) l v o nx)) kk, rfl, HN.out.keep hkp, sg_in (V := vCells 0 0 pN 0 0 pN pN) (blk_new w1 _) v0_lies (Lies.keep (w := w1.drew) hkp _ _ _ hp1) (HKK.out.keep hkp), HX2.out, HF.out.trans hA (fun _ h => h.elim)⟩
        | false =>
          rw [if_neg (by decide)] at hx
          have HX2 : Hid _ := hx
          clear hx
          go_wp2_with fail
          refine (anyUsed_c (H.out.fr HF.out) (HU.out.fr HF.out) HE.out HBB.out).mono ?_
          rintro e1 w1 ⟨rfl, rfl⟩
          go_wp2_with fail
          go_roundg (cLen nx)
          case measure => rw [HM.out]; exact Nat.lt_succ_self _
          case rel => exact ⟨nx, kk, rfl, HN.out, HKK.out, HX2.out, HF.out⟩
      · rw [if_neg hb] at hx
        obtain ⟨bb, hbb, hx⟩ := bindO hx
        obtain ⟨ub, rfl, hul2, hub2⟩ := getb_has hbb
        obtain ⟨ug, hux, hug, cu⟩ := (HU.out.fr HF.out).cell hub2
        injection hux with hxa hxn hxc
        subst hxa hxn hxc
        have q2 : (ub : Int) < (u.length : Int) := by omega
        clear hbb hub2
        cases bb with
        | true =>
          rw [if_pos rfl] at hx
          have HX2 : Hid _ := hx
          clear hx
          go_wp2_with fail
          go_region
          all_goals
            go_wp2_with fail
            go_roundg (cLen nx)
            case measure => rw [HM.out]; exact Nat.lt_succ_self _
            case rel =>
              have hA : Fr (fun _ => False) wr (wr.alloc (.cells #[iV (ub : Int), iV kv, iV nv, .pointer pv, iV prv, iV bdv, .pointer qv, .pointer rv, iV 0, pN, .pointer ok] 247)).drew := (by repeat (first | with_reducible exact Fr.refl _ _ | (with_reducible refine Fr.drew ?_) | (with_reducible refine Fr.drewN ?_ _) | (with_reducible refine Fr.alloc ?_ _) | ((with_reducible refine Fr.setCell ?_ ?_ _); rotate_left; first | exact .inl rfl | exact .inr (Nat.le_refl _) | exact .inl (Nat.le_refl _) | (focus (left; simp; done)) | (focus (left; simp; omega)) | (focus (left; omega)) | (focus (right; simp; done)) | (focus (right; simp; omega)) | (focus (right; omega))) | exact Fr.refl _ _))
              have hkp : Kp wr (wr.alloc (.cells #[iV (ub : Int), iV kv, iV nv, .pointer pv, iV prv, iV bdv, .pointer qv, .pointer rv, iV 0, pN, .pointer ok] 247)).drew := hA.kp fun _ _ _ h => h.elim
              exact ⟨nx, cBind ub v kk, rfl, HN.out.keep hkp, sg_in (V := vCells kv nv (.pointer pv) prv bdv (.pointer qv) (.pointer rv)) (blk_new wr _) (HV.out.keep hkp) nil1 (HKK.out.keep hkp), HX2.out, HF.out.trans hA (fun _ h => h.elim)⟩
        | false =>
          rw [if_neg (by decide)] at hx
          have HX2 : Hid _ := hx
          clear hx
          go_wp2_with fail
          go_roundg (cLen nx)
          case measure => rw [HM.out]; exact Nat.lt_succ_self _
          case rel => exact ⟨nx, kk, rfl, HN.out, HKK.out, HX2.out, HF.out⟩
end
end Go.Proofs.YtklimomeendajaaGreatDoor

/- machine: name. -/
namespace Go.Proofs.YtklimomeendajaaGreatDoor
open Go.RowKit

theorem kName_seq (t : RS) (bi b l : Int) (v o nx : Code) : kName t bi (sMk b l v o nx) = if b = bi then some (some v) else if b = -1 then (expAt t l).bind fun x => (match x.funs.find? fun g => g.1 == bi with
    | some g => some (some (vFun g.2.1 g.2.2 (kOwn (sMk b l v o nx))))
    | none => kName t bi nx) else kName t bi nx := rfl

def kThen (f : Nat) (m : MX) : Option Code → Option MX
  | some v => kGo f m v
  | none => some m

section
variable {K : MC} {M : Nat} {w w' : World} {m m' : MX} {D D' : MD}

set_option maxHeartbeats 3200000 in
set_option maxRecDepth 100000 in
theorem name_c (h : Mc K M w m D) {bi : Int} {xs : Value} {sg : Code} (hs : Lies w sg 1 [xs]) {f : Nat} {rs : Option Code} (hr : kName K.c.t bi sg = some rs) (hx : kThen f m rs = some m') :
    Calls Tryz.prog 144 #[pT M, xs, iV bi] w fun e w' => e = .returned (.tuple #[]) ∧ Mn K M w D w' m' := by
  have H : Hid (Mc K M w m D) := h
  have HS : Hid (Lies w sg 1 [xs]) := hs
  have HR : Hid (kName K.c.t bi sg = some rs) := hr
  have HX : Hid (kThen f m rs = some m') := hx
  clear h hs hr hx
  go_enter Tryz.func144, Tryz.ntmps144
  go_wp2_with fail
  go_loopg [6] (cLen sg) (fun k sv wr => ∃ (c : Code), k = cLen c ∧ Lies wr c 1 [sv] ∧ kName K.c.t bi c = some rs ∧ Fr (fun _ => False) w wr)
  case atStart => exact ⟨sg, rfl, HS.out, HR.out, Fr.refl _ _⟩
  case round =>
    obtain ⟨c, hk, hc, hx, hF⟩ := hrel
    have HM : Hid (gk = cLen c) := hk
    have HF : Hid (Fr (fun _ => False) w wr) := hF
    clear hk hF HR HS
    rcases sg_shape hc with ⟨rfl, rfl⟩ | ⟨b, l, v, o, nx, rfl⟩
    · simp only [kName, Option.some.injEq] at hx
      subst hx
      have hx := HX.out
      injection hx with hx
      subst hx
      clear hc HX
      go_wp2_with fail
      (first | go_end0 | ((try simp only [Exit.inBlock, Exit.then]); refine bodyPost_ret (results_none rfl _ _ _) rfl ?_))
      exact ⟨rfl, .pre HF.out (.of (H.out.fr HF.out) (Fr.refl _ _) rfl)⟩
    · have HC : Hid (Lies wr (sMk b l v o nx) 1 [u6]) := hc
      rw [kName_seq] at hx
      obtain ⟨g, kv, nv, pv, prv, bdv, qv, rv, po, pn, rfl, hg, hv, ho, hn⟩ := sg_blk hc
      have HV : Hid (Lies wr v 0 (vCells kv nv (.pointer pv) prv bdv (.pointer qv) (.pointer rv))) := hv
      have HN : Hid (Lies wr nx 1 [.pointer pn]) := hn
      obtain ⟨z0, z1, z2, z3, z4, z5, z6, z7, z8, z9, z10⟩ := wt_cells hg
      have zl := blk_lt hg
      clear hc hv ho hn
      by_cases hb : b = bi
      · rw [if_pos hb] at hx
        subst hb
        injection hx with hx
        subst hx
        have HX1 : Hid (kGo f m v = some m') := HX.out
        clear HX
        go_wp2_with fail
        refine (goOn_c (H.out.fr HF.out) HV.out HX1.out).mono ?_
        rintro r1 w1 ⟨rfl, hN⟩
        have HN1 : Hid (Mn K M w D w1 m') := hN.pre HF.out
        clear hN
        go_wp2_with fail
        (first | go_end0 | ((try simp only [Exit.inBlock, Exit.then]); refine bodyPost_ret (results_none rfl _ _ _) rfl ?_))
        exact ⟨rfl, HN1.out⟩
      · rw [if_neg hb] at hx
        have hfn : ∃ fr, kFunc K.c.t b l (kOwn (sMk b l v o nx)) bi = some fr ∧ (∀ v', fr = some v' → rs = some v') ∧ (fr = none → kName K.c.t bi nx = some rs) := by
          unfold kFunc
          by_cases hb1 : b = -1
          · rw [if_pos hb1] at hx ⊢
            obtain ⟨e, he, hx⟩ := bindO hx
            rw [he]
            refine ⟨_, rfl, ?_⟩
            cases hfd : (e.funs.find? fun g => g.1 == bi) with
            | none => rw [hfd] at hx; exact ⟨(fun v' h => by cases h), fun _ => hx⟩
            | some g' => rw [hfd] at hx; injection hx with hx; exact ⟨(fun v' h => by injection h with h; rw [← hx, ← h]), fun h => by cases h⟩
          · rw [if_neg hb1] at hx ⊢
            exact ⟨none, rfl, (fun v' h => by cases h), fun _ => hx⟩
        obtain ⟨fr, hfr, hfx⟩ := hfn
        have HFR : Hid (kFunc K.c.t b l (kOwn (sMk b l v o nx)) bi = some fr) := hfr
        have HG : Hid (wr.heap[g]? = some (.cells #[iV b, iV kv, iV nv, .pointer pv, iV prv, iV bdv, .pointer qv, .pointer rv, iV l, .pointer po, .pointer pn] 247 (0, 0))) := hg
        clear hx hfr hg
        go_wp2_with fail
        refine (function_c (H.out.fr HF.out) HC.out HFR.out).mono ?_
        rintro r1 w1 ⟨hF1, V1, rfl, hL1⟩
        obtain ⟨k1, n1, _, pr1, bd1, _, _, p1, q1, rr1, -, rfl, -⟩ := val_out hL1
        have HF1 : Hid (Fr (fun _ => False) w w1) := HF.out.trans hF1 (fun _ h => h.elim)
        have HL1 : Hid (Lies w1 (fr.getD v0) 0 (vCells k1 n1 p1 pr1 bd1 q1 rr1)) := hL1
        have HN1 : Hid (Lies w1 nx 1 [.pointer pn]) := HN.out.keep (hF1.kp fun _ _ _ h => h.elim)
        have hg1 := (hF1.block g (blk_lt HG.out) id).trans HG.out
        clear z0 z1 z2 z3 z4 z5 z6 z7 z8 z9 z10 zl
        obtain ⟨z0, z1, z2, z3, z4, z5, z6, z7, z8, z9, z10⟩ := wt_cells hg1
        have zl := blk_lt hg1
        obtain ⟨⟨ob1, rfl⟩, ⟨ob2, rfl⟩, ob3, rfl⟩ := val_ptrs hL1
        clear hF1 hL1 hg1 HG
        cases fr with
        | some v' =>
          have hfx := hfx.1 v' rfl
          subst hfx
          have HX1 : Hid (kGo f m v' = some m') := HX.out
          clear HX
          go_wp2_with fail
          have HFA : Hid (Fr (fun _ => False) w (w1.alloc (.cells #[iV k1, iV n1, .pointer ob1, iV pr1, iV bd1, .pointer ob2, .pointer ob3] 196))) := HF1.out.alloc _
          refine (goOn_c (H.out.fr HFA.out) (HL1.out.keep (Fr.kp ((Fr.refl _ w1).alloc _) (fun _ _ _ h => False.elim h))) HX1.out).mono ?_
          rintro r2 w2 ⟨rfl, hN⟩
          have HN2 : Hid (Mn K M w D w2 m') := hN.pre HFA.out
          clear hN
          go_wp2_with fail
          (first | go_end0 | ((try simp only [Exit.inBlock, Exit.then]); refine bodyPost_ret (results_none rfl _ _ _) rfl ?_))
          exact ⟨rfl, HN2.out⟩
        | none =>
          have HX2 : Hid (kName K.c.t bi nx = some rs) := hfx.2 rfl
          clear hfx
          go_wp2_with fail
          go_roundg (cLen nx)
          case measure => rw [HM.out]; exact Nat.lt_succ_self _
          case rel => exact ⟨nx, rfl, HN1.out.keep (Fr.kp ((Fr.refl _ w1).alloc _) (fun _ _ _ h => False.elim h)), HX2.out, HF1.out.alloc _⟩
end
end Go.Proofs.YtklimomeendajaaGreatDoor
