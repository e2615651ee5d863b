import Derived.Test.YtklimomeendajaaGreatDoorMC5
import Derived.BigRegion
set_option linter.unusedVariables false
set_option linter.unusedSimpArgs false
/- machine: goOn, number, truth, within, call. -/
namespace Go.Proofs.YtklimomeendajaaGreatDoor
open Go.RowKit

theorem wrap_eq (n : Int) : RowKit.wrap64 (RowKit.wrap32 n) = wrap32 n := by
  unfold RowKit.wrap64 RowKit.wrap32 wrap32
  have e : (n + 2147483648).emod 4294967296 = (n + 2147483648) % 4294967296 := rfl
  rw [e]
  omega

section
variable {K : MC} {M : Nat} {w w' : World} {m m' : MX} {D D' : MD}

/-- A quiet step ahead, then one that is told of. -/
theorem Mn.frs {w1 : World} (hF : Fr (fun _ => False) w w1) (h : Mn K M w1 D w' m') : Mn K M w D w' m' := h.pre hF

theorem Mn.post {w1 : World} (h : Mn K M w D w1 m') (hF : Fr (fun _ => False) w1 w') : Mn K M w D w' m' := by
  obtain ⟨D', h1, h2, h3⟩ := h
  exact ⟨D', h1.fr hF, h2.trans hF (fun _ h => h.elim), h3⟩

theorem forceN_eq {α : Type} (k : Nat) (f : Nat → α) : forceN k f = f k := by cases k <;> rfl
theorem forceI_eq {α : Type} (n : Int) (f : Int → α) : forceI n f = f n := by cases n <;> simp only [forceI, forceN_eq]
theorem forceC_eq {α : Type} (c : Code) (f : Code → α) : forceC c f = f c := by cases c <;> rfl
theorem forceL_eq {α β : Type} (l : List β) (f : List β → α) : forceL l f = f l := by cases l <;> rfl
theorem forceB_eq {α : Type} (b : Bool) (f : Bool → α) : forceB b f = f b := by cases b <;> rfl

set_option maxHeartbeats 1600000 in
set_option maxRecDepth 100000 in
theorem goOn_c (h : Mc K M w m D) {f : Nat} {v : Code} {V : List Value} (hv : Lies w v 0 V) (hx : kGo f m v = some m') :
    Calls Tryz.prog 143 #[pT M, .agg V.toArray] w fun e w' => e = .returned (.tuple #[]) ∧ Mn K M w D w' m' := by
  obtain ⟨kv, nv, pav, prv, bdv, sgv, wtv, pv, xv, yv, -, rfl, -⟩ := val_out hv
  obtain ⟨⟨o1, rfl⟩, ⟨o2, rfl⟩, o3, rfl⟩ := val_ptrs hv
  show Calls Tryz.prog 143 #[pT M, .agg #[iV kv, iV nv, .pointer o1, iV prv, iV bdv, .pointer o2, .pointer o3]] w _
  have HL : Hid (Lies w v 0 (vCells kv nv (.pointer o1) prv bdv (.pointer o2) (.pointer o3))) := hv
  have HX : Hid (kGo f m v = some m') := hx
  have hwt := h.wt
  clear hv hx
  obtain ⟨k, n, p, pr, bd, q, r, hV, hb⟩ := h.cells
  obtain ⟨⟨c0, c1, c2, c3, c4, c5, c6, c7, c8, c9, c10, c11, c12, c13, c14, c15, c16⟩, hf⟩ := mc17 hb
  have f1 := hf 1; have f2 := hf 2; have f3 := hf 3; have f4 := hf 4; have f5 := hf 5; have f6 := hf 6; have f7 := hf 7; have f8 := hf 8; have f9 := hf 9; have f10 := hf 10; have f11 := hf 11; have f12 := hf 12; have f13 := hf 13; have f14 := hf 14; have f15 := hf 15; have f16 := hf 16
  have hl := blk_lt hb
  have H : Hid (Mc K M w m D) := h
  have HB : Hid (w.heap[M]? = some (.cells #[pT K.cb, D.iv, .bool m.lk, iV m.ex, D.sp, iV k, iV n, p, iV pr, iV bd, q, r, D.wp, iV m.st, .string (bz m.tx), D.pv, iV m.jm] 198 (0, 0))) := hb
  have HV : Hid (D.V = vCells k n p pr bd q r) := hV
  clear h hb hf hV
  rcases wt_out hwt with ⟨hws, hwp⟩ | ⟨_, _, _, _, nx, _, _, _, g, hws, hwp, -⟩
  · have hx := HX.out
    unfold kGo at hx
    rw [if_neg (by rw [hws]; simp [isC])] at hx
    obtain ⟨tx, ht, hx⟩ := bindO hx
    injection hx with hx
    subst hx
    rw [hwp] at c12
    have HTx : Hid (vText f v = some tx) := ht
    have hF0 : Fr (fun _ => False) w (w.alloc (.cells #[iV kv, iV nv, .pointer o1, iV prv, iV bdv, .pointer o2, .pointer o3] 196)) := (Fr.refl _ w).alloc _
    have HF0 : Hid (Fr (fun _ => False) w (w.alloc (.cells #[iV kv, iV nv, .pointer o1, iV prv, iV bdv, .pointer o2, .pointer o3] 196))) := hF0
    have HL0 : Hid (Lies (w.alloc (.cells #[iV kv, iV nv, .pointer o1, iV prv, iV bdv, .pointer o2, .pointer o3] 196)) v 0 (vCells kv nv (.pointer o1) prv bdv (.pointer o2) (.pointer o3))) := HL.out.keep (hF0.kp fun _ _ _ h => h.elim)
    clear ht hws hwp hwt HX hF0
    go_enter Tryz.func143, Tryz.ntmps143
    go_wp2_with fail
    refine (text_v itOk HL0.out (H.out.fr HF0.out).tb HTx.out).mono ?_
    rintro r1 w1 ⟨rfl, hF1⟩
    have HF1 : Hid (Fr (fun _ => False) w w1) := HF0.out.trans hF1 (fun _ h => h.elim)
    clear hF1
    go_wp2_with fail
    refine (end_c (H.out.fr HF1.out)).mono ?_
    rintro r2 w2 ⟨rfl, hN⟩
    have HN : Hid (Mn K M w D w2 (kEnd m 1 tx)) := hN.pre HF1.out
    clear hN
    go_wp2_with fail
    (first | go_end0 | ((try simp only [Exit.inBlock, Exit.then]); refine bodyPost_ret (results_none rfl _ _ _) rfl ?_))
    exact ⟨rfl, HN.out⟩
  · have hx := HX.out
    unfold kGo at hx
    rw [if_pos (by rw [hws]; rfl)] at hx
    injection hx with hx
    subst hx
    rw [hwp] at c12
    clear hws hwp hwt HX
    go_enter Tryz.func143, Tryz.ntmps143
    go_wp2_with fail
    (first | go_end0 | ((try simp only [Exit.inBlock, Exit.then]); refine bodyPost_ret (results_none rfl _ _ _) rfl ?_))
    have g0 := blk_set (i := 2) (v := .bool false) (c' := #[pT K.cb, D.iv, .bool false, iV m.ex, D.sp, iV k, iV n, p, iV pr, iV bd, q, r, D.wp, iV m.st, .string (bz m.tx), D.pv, iV m.jm]) HB.out rfl
    have g1 := blk_set (i := 5) (v := iV kv) (c' := #[pT K.cb, D.iv, .bool false, iV m.ex, D.sp, iV kv, iV n, p, iV pr, iV bd, q, r, D.wp, iV m.st, .string (bz m.tx), D.pv, iV m.jm]) g0 rfl
    have g2 := blk_set (i := 6) (v := iV nv) (c' := #[pT K.cb, D.iv, .bool false, iV m.ex, D.sp, iV kv, iV nv, p, iV pr, iV bd, q, r, D.wp, iV m.st, .string (bz m.tx), D.pv, iV m.jm]) g1 rfl
    have g3 := blk_set (i := 7) (v := .pointer o1) (c' := #[pT K.cb, D.iv, .bool false, iV m.ex, D.sp, iV kv, iV nv, .pointer o1, iV pr, iV bd, q, r, D.wp, iV m.st, .string (bz m.tx), D.pv, iV m.jm]) g2 rfl
    have g4 := blk_set (i := 8) (v := iV prv) (c' := #[pT K.cb, D.iv, .bool false, iV m.ex, D.sp, iV kv, iV nv, .pointer o1, iV prv, iV bd, q, r, D.wp, iV m.st, .string (bz m.tx), D.pv, iV m.jm]) g3 rfl
    have g5 := blk_set (i := 9) (v := iV bdv) (c' := #[pT K.cb, D.iv, .bool false, iV m.ex, D.sp, iV kv, iV nv, .pointer o1, iV prv, iV bdv, q, r, D.wp, iV m.st, .string (bz m.tx), D.pv, iV m.jm]) g4 rfl
    have g6 := blk_set (i := 10) (v := .pointer o2) (c' := #[pT K.cb, D.iv, .bool false, iV m.ex, D.sp, iV kv, iV nv, .pointer o1, iV prv, iV bdv, .pointer o2, r, D.wp, iV m.st, .string (bz m.tx), D.pv, iV m.jm]) g5 rfl
    have gB := blk_set (i := 11) (v := .pointer o3) (c' := #[pT K.cb, D.iv, .bool false, iV m.ex, D.sp, iV kv, iV nv, .pointer o1, iV prv, iV bdv, .pointer o2, .pointer o3, D.wp, iV m.st, .string (bz m.tx), D.pv, iV m.jm]) g6 rfl
    have hF : Fr (fun b => b = M) w ((((((((w.setCell ⟨M, 2, none⟩ (.bool false)).setCell ⟨M, 5, none⟩ (iV kv)).setCell ⟨M, 6, none⟩ (iV nv)).setCell ⟨M, 7, none⟩ (.pointer o1)).setCell ⟨M, 8, none⟩ (iV prv)).setCell ⟨M, 9, none⟩ (iV bdv)).setCell ⟨M, 10, none⟩ (.pointer o2)).setCell ⟨M, 11, none⟩ (.pointer o3)) := (by repeat (first | with_reducible exact Fr.refl _ _ | (with_reducible refine Fr.drew ?_) | (with_reducible refine Fr.drewN ?_ _) | (with_reducible refine Fr.alloc ?_ _) | ((with_reducible refine Fr.setCell ?_ ?_ _); rotate_left; first | exact .inl rfl | exact .inr (Nat.le_refl _) | exact .inl (Nat.le_refl _) | (focus (left; simp; done)) | (focus (left; simp; omega)) | (focus (left; omega)) | (focus (right; simp; done)) | (focus (right; simp; omega)) | (focus (right; omega))) | exact Fr.refl _ _))
    have hk := H.out.kpM hF
    exact ⟨rfl, (Mn.of (D := D) (D' := { D with V := vCells kv nv (.pointer o1) prv bdv (.pointer o2) (.pointer o3) }) (H.out.upd (m' := { m with lk := false, val := v }) hF gB rfl rfl H.out.inp H.out.ip (H.out.sg.keep hk) (HL.out.keep hk) (H.out.wt.keep hk)) hF rfl).post ((Fr.refl _ _).alloc _)⟩

set_option maxHeartbeats 1600000 in
set_option maxRecDepth 100000 in
theorem number_c (h : Mc K M w m D) {f : Nat} {n : Int} (hx : kNum f m n = some m') :
    Calls Tryz.prog 141 #[pT M, iV n] w fun e w' => e = .returned (.tuple #[]) ∧ Mn K M w D w' m' := by
  unfold kNum at hx
  rw [forceI_eq] at hx
  have HX : Hid (kGo f m (vNum (wrap32 n)) = some m') := hx
  have H : Hid (Mc K M w m D) := h
  clear h hx
  go_enter Tryz.func141, Tryz.ntmps141
  go_wp2_with fail
  have e : RowKit.wrap64 (RowKit.wrap32 n) = wrap32 n := wrap_eq n
  rw [e]
  refine (goOn_c H.out (V := vCells 1 (wrap32 n) pN 0 0 pN pN) (val_in nil3 nil1 nil2) HX.out).mono ?_
  rintro r1 w1 ⟨rfl, hN⟩
  have HN : Hid (Mn K M w D w1 m') := hN
  clear hN
  go_wp2_with fail
  (first | go_end0 | ((try simp only [Exit.inBlock, Exit.then]); refine bodyPost_ret (results_none rfl _ _ _) rfl ?_))
  exact ⟨rfl, HN.out⟩

set_option maxHeartbeats 1600000 in
set_option maxRecDepth 100000 in
theorem truth_c (h : Mc K M w m D) {f : Nat} {b : Bool} (hx : kTruth f m b = some m') :
    Calls Tryz.prog 142 #[pT M, .bool b] w fun e w' => e = .returned (.tuple #[]) ∧ Mn K M w D w' m' := by
  unfold kTruth at hx
  have HX : Hid (kGo f m (vTru b) = some m') := hx
  have H : Hid (Mc K M w m D) := h
  clear h hx
  go_enter Tryz.func142, Tryz.ntmps142
  cases b with
  | true =>
    go_wp2_with fail
    generalize hW : w.alloc (.cells #[iV 2, iV 1, pN, iV 0, iV 0, pN, pN] 196) = W
    have HF : Hid (Fr (fun _ => False) w W) := by rw [← hW]; show Fr _ _ _; exact (by repeat (first | with_reducible exact Fr.refl _ _ | (with_reducible refine Fr.drew ?_) | (with_reducible refine Fr.drewN ?_ _) | (with_reducible refine Fr.alloc ?_ _) | ((with_reducible refine Fr.setCell ?_ ?_ _); rotate_left; first | exact .inl rfl | exact .inr (Nat.le_refl _) | exact .inl (Nat.le_refl _) | (focus (left; simp; done)) | (focus (left; simp; omega)) | (focus (left; omega)) | (focus (right; simp; done)) | (focus (right; simp; omega)) | (focus (right; omega))) | exact Fr.refl _ _))
    clear hW
    refine (goOn_c (H.out.fr HF.out) (V := vCells 2 1 pN 0 0 pN pN) (val_in nil3 nil1 nil2) HX.out).mono ?_
    rintro r1 w1 ⟨rfl, hN⟩
    have HN : Hid (Mn K M w D w1 m') := hN.pre HF.out
    clear hN
    go_wp2_with fail
    (first | go_end0 | ((try simp only [Exit.inBlock, Exit.then]); refine bodyPost_ret (results_none rfl _ _ _) rfl ?_))
    exact ⟨rfl, HN.out⟩
  | false =>
    go_wp2_with fail
    generalize hW : w.alloc (.cells #[iV 2, iV 0, pN, iV 0, iV 0, pN, pN] 196) = W
    have HF : Hid (Fr (fun _ => False) w W) := by rw [← hW]; show Fr _ _ _; exact (by repeat (first | with_reducible exact Fr.refl _ _ | (with_reducible refine Fr.drew ?_) | (with_reducible refine Fr.drewN ?_ _) | (with_reducible refine Fr.alloc ?_ _) | ((with_reducible refine Fr.setCell ?_ ?_ _); rotate_left; first | exact .inl rfl | exact .inr (Nat.le_refl _) | exact .inl (Nat.le_refl _) | (focus (left; simp; done)) | (focus (left; simp; omega)) | (focus (left; omega)) | (focus (right; simp; done)) | (focus (right; simp; omega)) | (focus (right; omega))) | exact Fr.refl _ _))
    clear hW
    refine (goOn_c (H.out.fr HF.out) (V := vCells 2 0 pN 0 0 pN pN) (val_in nil3 nil1 nil2) HX.out).mono ?_
    rintro r1 w1 ⟨rfl, hN⟩
    have HN : Hid (Mn K M w D w1 m') := hN.pre HF.out
    clear hN
    go_wp2_with fail
    (first | go_end0 | ((try simp only [Exit.inBlock, Exit.then]); refine bodyPost_ret (results_none rfl _ _ _) rfl ?_))
    exact ⟨rfl, HN.out⟩

set_option maxHeartbeats 1600000 in
set_option maxRecDepth 100000 in
theorem within_c (h : Mc K M w m D) {sg v : Code} {x : Value} {V : List Value} {b i : Int} (hs : Lies w sg 1 [x]) (hv : Lies w v 0 V) :
    Calls Tryz.prog 148 #[pT M, x, iV b, .agg V.toArray, iV i] w fun e w' => e = .returned (.tuple #[]) ∧ Mn K M w D w' (kIn m sg b v i) := by
  obtain ⟨kv, nv, pav, prv, bdv, sgv, wtv, pv, xv, yv, -, rfl, -⟩ := val_out hv
  obtain ⟨⟨o1, rfl⟩, ⟨o2, rfl⟩, o3, rfl⟩ := val_ptrs hv
  obtain ⟨o, rfl⟩ := ptr_of hs (.inl rfl)
  show Calls Tryz.prog 148 #[pT M, .pointer o, iV b, .agg #[iV kv, iV nv, .pointer o1, iV prv, iV bdv, .pointer o2, .pointer o3], iV i] w _
  have HL : Hid (Lies w v 0 (vCells kv nv (.pointer o1) prv bdv (.pointer o2) (.pointer o3))) := hv
  have HS : Hid (Lies w sg 1 [.pointer o]) := hs
  have H : Hid (Mc K M w m D) := h
  clear h hv hs
  go_enter Tryz.func148, Tryz.ntmps148
  go_wp2_with fail
  have hB := blk_new (w.alloc (.cells #[iV kv, iV nv, .pointer o1, iV prv, iV bdv, .pointer o2, .pointer o3] 196)) (.cells #[iV b, iV kv, iV nv, .pointer o1, iV prv, iV bdv, .pointer o2, .pointer o3, iV 0, pN, .pointer o] 247)
  generalize hW : (w.alloc (.cells #[iV kv, iV nv, .pointer o1, iV prv, iV bdv, .pointer o2, .pointer o3] 196)).alloc (.cells #[iV b, iV kv, iV nv, .pointer o1, iV prv, iV bdv, .pointer o2, .pointer o3, iV 0, pN, .pointer o] 247) = W at hB ⊢
  rw [show (w.alloc (.cells #[iV kv, iV nv, .pointer o1, iV prv, iV bdv, .pointer o2, .pointer o3] 196)).heap.size = w.heap.size + 1 by simp] at hB
  have HF : Hid (Fr (fun _ => False) w W) := by rw [← hW]; show Fr _ _ _; exact (by repeat (first | with_reducible exact Fr.refl _ _ | (with_reducible refine Fr.drew ?_) | (with_reducible refine Fr.drewN ?_ _) | (with_reducible refine Fr.alloc ?_ _) | ((with_reducible refine Fr.setCell ?_ ?_ _); rotate_left; first | exact .inl rfl | exact .inr (Nat.le_refl _) | exact .inl (Nat.le_refl _) | (focus (left; simp; done)) | (focus (left; simp; omega)) | (focus (left; omega)) | (focus (right; simp; done)) | (focus (right; simp; omega)) | (focus (right; omega))) | exact Fr.refl _ _))
  clear hW
  have hk : Kp w W := HF.out.kp fun _ _ _ h => h.elim
  have hS : Lies W (cBind b v sg) 1 [pT (w.heap.size + 1)] := sg_in (V := vCells kv nv (.pointer o1) prv bdv (.pointer o2) (.pointer o3)) hB (HL.out.keep hk) nil1 (HS.out.keep hk)
  refine (lookAt_c (H.out.fr HF.out) hS).mono ?_
  rintro r1 w1 ⟨rfl, hN⟩
  have HN : Hid (Mn K M w D w1 (kIn m sg b v i)) := hN.pre HF.out
  clear hN hB hS hk
  go_wp2_with fail
  (first | go_end0 | ((try simp only [Exit.inBlock, Exit.then]); refine bodyPost_ret (results_none rfl _ _ _) rfl ?_))
  exact ⟨rfl, HN.out⟩
end
end Go.Proofs.YtklimomeendajaaGreatDoor

/- machine: call, choose, read. -/
namespace Go.Proofs.YtklimomeendajaaGreatDoor
open Go.RowKit

section
variable {K : MC} {M : Nat} {w w' : World} {m m' : MX} {D D' : MD}

set_option maxHeartbeats 1600000 in
set_option maxRecDepth 100000 in
theorem call_c (h : Mc K M w m D) {g a : Code} {G A : List Value} (hg : Lies w g 0 G) (ha : Lies w a 0 A) :
    Calls Tryz.prog 152 #[pT M, .agg G.toArray, .agg A.toArray] w fun e w' => e = .returned (.tuple #[]) ∧ Mn K M w D w' (kCall m g a) := by
  obtain ⟨kg, ng, pag, prg, bdg, sgg, wtg, pg, xg, yg, rfl, rfl, -, hsg, -⟩ := val_out hg
  obtain ⟨ka, na, paa, pra, bda, sga, wta, pa, xa, ya, -, rfl, -⟩ := val_out ha
  show Calls Tryz.prog 152 #[pT M, .agg #[iV kg, iV ng, pg, iV prg, iV bdg, xg, yg], .agg #[iV ka, iV na, pa, iV pra, iV bda, xa, ya]] w _
  have HA : Hid (Lies w a 0 (vCells ka na pa pra bda xa ya)) := ha
  have HS : Hid (Lies w sgg 1 [xg]) := hsg
  have H : Hid (Mc K M w m D) := h
  clear h hg ha hsg
  go_enter Tryz.func152, Tryz.ntmps152
  go_wp2_with fail
  generalize hW : (w.alloc (.cells #[iV kg, iV ng, pg, iV prg, iV bdg, xg, yg] 196)).alloc (.cells #[iV ka, iV na, pa, iV pra, iV bda, xa, ya] 196) = W
  have HF : Hid (Fr (fun _ => False) w W) := by rw [← hW]; show Fr _ _ _; exact (by repeat (first | with_reducible exact Fr.refl _ _ | (with_reducible refine Fr.drew ?_) | (with_reducible refine Fr.drewN ?_ _) | (with_reducible refine Fr.alloc ?_ _) | ((with_reducible refine Fr.setCell ?_ ?_ _); rotate_left; first | exact .inl rfl | exact .inr (Nat.le_refl _) | exact .inl (Nat.le_refl _) | (focus (left; simp; done)) | (focus (left; simp; omega)) | (focus (left; omega)) | (focus (right; simp; done)) | (focus (right; simp; omega)) | (focus (right; omega))) | exact Fr.refl _ _))
  clear hW
  have hk : Kp w W := HF.out.kp fun _ _ _ h => h.elim
  refine (within_c (H.out.fr HF.out) (HS.out.keep hk) (HA.out.keep hk)).mono ?_
  rintro r1 w1 ⟨rfl, hN⟩
  have HN : Hid (Mn K M w D w1 (kCall m (vMk kg ng pag prg bdg sgg wtg) a)) := hN.pre HF.out
  clear hN hk
  go_wp2_with fail
  (first | go_end0 | ((try simp only [Exit.inBlock, Exit.then]); refine bodyPost_ret (results_none rfl _ _ _) rfl ?_))
  exact ⟨rfl, HN.out⟩

set_option maxHeartbeats 1600000 in
set_option maxRecDepth 100000 in
theorem choose_c (h : Mc K M w m D) {v sg : Code} {V : List Value} {x : Value} (hv : Lies w v 0 V) (hs : Lies w sg 1 [x]) {e0 e1 e2 e3 e4 e5 : Int} {e6 e7 : Value} :
    Calls Tryz.prog 149 #[pT M, .agg #[iV e0, iV e1, iV e2, iV e3, iV e4, iV e5, e6, e7], .agg V.toArray, x] w fun e w' => e = .returned (.tuple #[]) ∧ Mn K M w D w' (kLook m (if vN v = 1 then e4 else e5) sg) := by
  obtain ⟨kg, ng, pag, prg, bdg, sgg, wtg, pg, xg, yg, rfl, rfl, -⟩ := val_out hv
  show Calls Tryz.prog 149 #[pT M, .agg #[iV e0, iV e1, iV e2, iV e3, iV e4, iV e5, e6, e7], .agg #[iV kg, iV ng, pg, iV prg, iV bdg, xg, yg], x] w _
  have HS : Hid (Lies w sg 1 [x]) := hs
  have H : Hid (Mc K M w m D) := h
  have e : vN (vMk kg ng pag prg bdg sgg wtg) = ng := rfl
  rw [e]
  clear h hv hs e
  go_enter Tryz.func149, Tryz.ntmps149
  by_cases hn : ng = 1
  · rw [if_pos hn]
    subst hn
    go_wp2_with fail
    generalize hW : (w.alloc (.cells #[iV e0, iV e1, iV e2, iV e3, iV e4, iV e5, e6, e7] 162)).alloc (.cells #[iV kg, iV 1, pg, iV prg, iV bdg, xg, yg] 196) = W
    have HF : Hid (Fr (fun _ => False) w W) := by rw [← hW]; show Fr _ _ _; exact (by repeat (first | with_reducible exact Fr.refl _ _ | (with_reducible refine Fr.drew ?_) | (with_reducible refine Fr.drewN ?_ _) | (with_reducible refine Fr.alloc ?_ _) | ((with_reducible refine Fr.setCell ?_ ?_ _); rotate_left; first | exact .inl rfl | exact .inr (Nat.le_refl _) | exact .inl (Nat.le_refl _) | (focus (left; simp; done)) | (focus (left; simp; omega)) | (focus (left; omega)) | (focus (right; simp; done)) | (focus (right; simp; omega)) | (focus (right; omega))) | exact Fr.refl _ _))
    clear hW
    refine (lookAt_c (H.out.fr HF.out) (HS.out.keep (HF.out.kp fun _ _ _ h => h.elim))).mono ?_
    rintro r1 w1 ⟨rfl, hN⟩
    have HN : Hid (Mn K M w D w1 (kLook m e4 sg)) := hN.pre HF.out
    clear hN
    go_wp2_with fail
    (first | go_end0 | ((try simp only [Exit.inBlock, Exit.then]); refine bodyPost_ret (results_none rfl _ _ _) rfl ?_))
    exact ⟨rfl, HN.out⟩
  · rw [if_neg hn]
    go_wp2_with fail
    generalize hW : (w.alloc (.cells #[iV e0, iV e1, iV e2, iV e3, iV e4, iV e5, e6, e7] 162)).alloc (.cells #[iV kg, iV ng, pg, iV prg, iV bdg, xg, yg] 196) = W
    have HF : Hid (Fr (fun _ => False) w W) := by rw [← hW]; show Fr _ _ _; exact (by repeat (first | with_reducible exact Fr.refl _ _ | (with_reducible refine Fr.drew ?_) | (with_reducible refine Fr.drewN ?_ _) | (with_reducible refine Fr.alloc ?_ _) | ((with_reducible refine Fr.setCell ?_ ?_ _); rotate_left; first | exact .inl rfl | exact .inr (Nat.le_refl _) | exact .inl (Nat.le_refl _) | (focus (left; simp; done)) | (focus (left; simp; omega)) | (focus (left; omega)) | (focus (right; simp; done)) | (focus (right; simp; omega)) | (focus (right; omega))) | exact Fr.refl _ _))
    clear hW
    refine (lookAt_c (H.out.fr HF.out) (HS.out.keep (HF.out.kp fun _ _ _ h => h.elim))).mono ?_
    rintro r1 w1 ⟨rfl, hN⟩
    have HN : Hid (Mn K M w D w1 (kLook m e5 sg)) := hN.pre HF.out
    clear hN
    go_wp2_with fail
    (first | go_end0 | ((try simp only [Exit.inBlock, Exit.then]); refine bodyPost_ret (results_none rfl _ _ _) rfl ?_))
    exact ⟨rfl, HN.out⟩

/-- The input is turned. -/
theorem Mc.setIn (h : Mc K M w m D) {iv : Value} {l : List Int} (hI : InAt w iv l) (hIP : l ≠ [] → ∀ b, iv.ownBlock = some b → D.pv.ownBlock ≠ some b) :
    Mc K M (w.setCell ⟨M, 1, none⟩ iv) { m with inp := l } { D with iv := iv } ∧ Fr (fun b => b = M) w (w.setCell ⟨M, 1, none⟩ iv) := by
  obtain ⟨k, n, p, pr, bd, q, r, hV, hb⟩ := h.cells
  obtain ⟨⟨c0, c1, c2, c3, c4, c5, c6, c7, c8, c9, c10, c11, c12, c13, c14, c15, c16⟩, hf⟩ := mc17 hb
  have f1 := hf 1; have f2 := hf 2; have f3 := hf 3; have f4 := hf 4; have f5 := hf 5; have f6 := hf 6; have f7 := hf 7; have f8 := hf 8; have f9 := hf 9; have f10 := hf 10; have f11 := hf 11; have f12 := hf 12; have f13 := hf 13; have f14 := hf 14; have f15 := hf 15; have f16 := hf 16
  have hl := blk_lt hb
  have H : Hid (Mc K M w m D) := h
  have HB : Hid (w.heap[M]? = some (.cells #[pT K.cb, D.iv, .bool m.lk, iV m.ex, D.sp, iV k, iV n, p, iV pr, iV bd, q, r, D.wp, iV m.st, .string (bz m.tx), D.pv, iV m.jm] 198 (0, 0))) := hb
  have HV : Hid (D.V = vCells k n p pr bd q r) := hV
  clear h hb hf hV
  have gB := blk_set (i := 1) (v := iv) (c' := #[pT K.cb, iv, .bool m.lk, iV m.ex, D.sp, iV k, iV n, p, iV pr, iV bd, q, r, D.wp, iV m.st, .string (bz m.tx), D.pv, iV m.jm]) HB.out rfl
  have hF : Fr (fun b => b = M) w (w.setCell ⟨M, 1, none⟩ (iv)) := (by repeat (first | with_reducible exact Fr.refl _ _ | (with_reducible refine Fr.drew ?_) | (with_reducible refine Fr.drewN ?_ _) | (with_reducible refine Fr.alloc ?_ _) | ((with_reducible refine Fr.setCell ?_ ?_ _); rotate_left; first | exact .inl rfl | exact .inr (Nat.le_refl _) | exact .inl (Nat.le_refl _) | (focus (left; simp; done)) | (focus (left; simp; omega)) | (focus (left; omega)) | (focus (right; simp; done)) | (focus (right; simp; omega)) | (focus (right; omega))) | exact Fr.refl _ _))
  have hk := H.out.kpM hF
  exact ⟨H.out.upd hF (by unfold mCells; simp only [HV.out]; exact gB) rfl rfl hI hIP (H.out.sg.keep hk) (H.out.val.keep hk) (H.out.wt.keep hk), hF⟩

set_option maxHeartbeats 1600000 in
set_option maxRecDepth 100000 in
theorem read_c (h : Mc K M w m D) {f : Nat} (hx : (match m.inp with
    | [] => some (kEnd m 3 [])
    | n :: l => kNum f { m with inp := l } n) = some m') :
    Calls Tryz.prog 146 #[pT M] w fun e w' => e = .returned (.tuple #[]) ∧ Mn K M w D w' m' := by
  have hI := h.inp
  have HIP : Hid (m.inp ≠ [] → ∀ b, D.iv.ownBlock = some b → D.pv.ownBlock ≠ some b) := h.ip
  obtain ⟨k, n, p, pr, bd, q, r, hV, hb⟩ := h.cells
  obtain ⟨⟨c0, c1, c2, c3, c4, c5, c6, c7, c8, c9, c10, c11, c12, c13, c14, c15, c16⟩, hf⟩ := mc17 hb
  have f1 := hf 1; have f2 := hf 2; have f3 := hf 3; have f4 := hf 4; have f5 := hf 5; have f6 := hf 6; have f7 := hf 7; have f8 := hf 8; have f9 := hf 9; have f10 := hf 10; have f11 := hf 11; have f12 := hf 12; have f13 := hf 13; have f14 := hf 14; have f15 := hf 15; have f16 := hf 16
  have hl := blk_lt hb
  have H : Hid (Mc K M w m D) := h
  have HB : Hid (w.heap[M]? = some (.cells #[pT K.cb, D.iv, .bool m.lk, iV m.ex, D.sp, iV k, iV n, p, iV pr, iV bd, q, r, D.wp, iV m.st, .string (bz m.tx), D.pv, iV m.jm] 198 (0, 0))) := hb
  have HV : Hid (D.V = vCells k n p pr bd q r) := hV
  clear h hb hf hV
  cases hinp : m.inp with
  | nil =>
    rw [hinp] at hx hI
    injection hx with hx
    subst hx
    obtain ⟨a, cap, hiv⟩ : ∃ a cap, D.iv = .slice a 0 cap := by
      rcases hI with ⟨_, h⟩ | ⟨g, off, cap, cur, h, -⟩
      · exact h
      · exact ⟨_, _, h⟩
    rw [hiv] at c1
    clear hI hinp hiv
    go_enter Tryz.func146, Tryz.ntmps146
    go_wp2_with fail
    refine (end_c (tx := []) H.out).mono ?_
    rintro r1 w1 ⟨rfl, hN⟩
    have HN : Hid (Mn K M w D w1 (kEnd m 3 [])) := hN
    clear hN
    go_wp2_with fail
    (first | go_end0 | ((try simp only [Exit.inBlock, Exit.then]); refine bodyPost_ret (results_none rfl _ _ _) rfl ?_))
    exact ⟨rfl, HN.out⟩
  | cons a l =>
    rw [hinp] at hx hI
    simp only at hx
    have HX : Hid (kNum f { m with inp := l } a = some m') := hx
    have HNE : Hid (m.inp ≠ []) := by show _ ≠ _; rw [hinp]; simp
    rcases hI with ⟨h1, _⟩ | ⟨g, off, cap, cur, hiv, hg, hcap, hcur⟩
    · cases h1
    rw [hiv] at c1
    have cg : w.cell? ⟨g, off, none⟩ = some (iV a) := by
      have := hcur 0 a rfl
      simp only [Nat.add_zero] at this
      simp [World.cell?, hg, this]
    have gl := blk_lt hg
    have HG : Hid (w.heap[g]? = some (.cells cur 3 (0, 0))) := hg
    have HC : Hid (l.length + 1 ≤ cap ∧ ∀ i v, (a :: l)[i]? = some v → cur[off + i]? = some (iV v)) := ⟨by simpa using hcap, hcur⟩
    have HIV : Hid (D.iv = .slice (some ⟨g, off, none⟩) (a :: l).length cap) := hiv
    have hcap' : l.length + 1 ≤ cap := by simpa using hcap
    clear hinp hiv hg hcap hcur hx
    go_enter Tryz.func146, Tryz.ntmps146
    go_wp2_with fail
    · obtain rfl : l = [] := List.length_eq_zero_iff.1 (by omega)
      have hS := H.out.setIn (iv := .slice (some ⟨g, off, none⟩) 0 0) (l := []) (.inl ⟨rfl, _, _, rfl⟩) (fun h => absurd rfl h)
      have HF : Hid _ := hS.2
      refine (number_c hS.1 HX.out).mono ?_
      rintro r1 w1 ⟨rfl, hN⟩
      have HN : Hid (Mn K M w D w1 m') := hN.step HF.out rfl
      clear hN hS HF
      go_wp2_with fail
      (first | go_end0 | ((try simp only [Exit.inBlock, Exit.then]); refine bodyPost_ret (results_none rfl _ _ _) rfl ?_))
      exact ⟨rfl, HN.out⟩
    · have hS := H.out.setIn (iv := .slice (some ⟨g, off + 1, none⟩) l.length (cap - 1)) (l := l) (.inr ⟨g, off + 1, cap - 1, cur, rfl, HG.out, by omega, fun i v hi => by
        have := HC.out.2 (i + 1) v (by simpa using hi)
        rw [show off + 1 + i = off + (i + 1) by omega]
        exact this⟩) (fun _ b hb => by cases hb; exact HIP.out HNE.out g (by rw [HIV.out]; rfl))
      have HF : Hid _ := hS.2
      refine (number_c hS.1 HX.out).mono ?_
      rintro r1 w1 ⟨rfl, hN⟩
      have HN : Hid (Mn K M w D w1 m') := hN.step HF.out rfl
      clear hN hS HF
      go_wp2_with fail
      (first | go_end0 | ((try simp only [Exit.inBlock, Exit.then]); refine bodyPost_ret (results_none rfl _ _ _) rfl ?_))
      exact ⟨rfl, HN.out⟩
end
end Go.Proofs.YtklimomeendajaaGreatDoor

/- machine: raise, compute. -/
namespace Go.Proofs.YtklimomeendajaaGreatDoor
open Go.RowKit

def cLen : Code → Nat
  | .seq _ b => cLen b + 1
  | _ => 0

section
variable {K : MC} {M : Nat} {w w' : World} {m m' : MX} {D D' : MD}

theorem mc6 {l : Nat} {a b c d e f : Value} {t : TypeId} (h : w.heap[l]? = some (.cells #[a, b, c, d, e, f] t (0, 0))) :
    w.cell? ⟨l, 0, none⟩ = some a ∧ w.cell? ⟨l, 1, none⟩ = some b ∧ w.cell? ⟨l, 2, none⟩ = some c ∧ w.cell? ⟨l, 3, none⟩ = some d ∧ w.cell? ⟨l, 4, none⟩ = some e ∧ w.cell? ⟨l, 5, none⟩ = some f := by
  simp [World.cell?, h]

/-- The waits are turned. -/
theorem Mc.setWt (h : Mc K M w m D) {x : Value} {c : Code} (hc : Lies w c 2 [x]) :
    Mc K M (w.setCell ⟨M, 12, none⟩ x) { m with wt := c } { D with wp := x } ∧ Fr (fun b => b = M) w (w.setCell ⟨M, 12, none⟩ x) := by
  obtain ⟨k, n, p, pr, bd, q, r, hV, hb⟩ := h.cells
  obtain ⟨⟨c0, c1, c2, c3, c4, c5, c6, c7, c8, c9, c10, c11, c12, c13, c14, c15, c16⟩, hf⟩ := mc17 hb
  have f1 := hf 1; have f2 := hf 2; have f3 := hf 3; have f4 := hf 4; have f5 := hf 5; have f6 := hf 6; have f7 := hf 7; have f8 := hf 8; have f9 := hf 9; have f10 := hf 10; have f11 := hf 11; have f12 := hf 12; have f13 := hf 13; have f14 := hf 14; have f15 := hf 15; have f16 := hf 16
  have hl := blk_lt hb
  have H : Hid (Mc K M w m D) := h
  have HB : Hid (w.heap[M]? = some (.cells #[pT K.cb, D.iv, .bool m.lk, iV m.ex, D.sp, iV k, iV n, p, iV pr, iV bd, q, r, D.wp, iV m.st, .string (bz m.tx), D.pv, iV m.jm] 198 (0, 0))) := hb
  have HV : Hid (D.V = vCells k n p pr bd q r) := hV
  clear h hb hf hV
  have gB := blk_set (i := 12) (v := x) (c' := #[pT K.cb, D.iv, .bool m.lk, iV m.ex, D.sp, iV k, iV n, p, iV pr, iV bd, q, r, x, iV m.st, .string (bz m.tx), D.pv, iV m.jm]) HB.out rfl
  have hF : Fr (fun b => b = M) w (w.setCell ⟨M, 12, none⟩ (x)) := (by repeat (first | with_reducible exact Fr.refl _ _ | (with_reducible refine Fr.drew ?_) | (with_reducible refine Fr.drewN ?_ _) | (with_reducible refine Fr.alloc ?_ _) | ((with_reducible refine Fr.setCell ?_ ?_ _); rotate_left; first | exact .inl rfl | exact .inr (Nat.le_refl _) | exact .inl (Nat.le_refl _) | (focus (left; simp; done)) | (focus (left; simp; omega)) | (focus (left; omega)) | (focus (right; simp; done)) | (focus (right; simp; omega)) | (focus (right; omega))) | exact Fr.refl _ _))
  have hk := H.out.kpM hF
  exact ⟨H.out.upd hF (by unfold mCells; simp only [HV.out]; exact gB) rfl rfl H.out.inp H.out.ip (H.out.sg.keep hk) (H.out.val.keep hk) (hc.keep hk), hF⟩

/-- A number more was printed. -/
theorem Mc.print (h : Mc K M w m D) {l : Int} {v' : Value} {w1 w2 : World} (hF : Fr (fun _ => False) w w1) (hg : w1.grownBy w2 D.pv.ownBlock) (hr : w2.ownsRow (M + 1) 3 1 v' (m.pr.length + 1) (m.pr.map (.int .i64) ++ [iV l])) (hv : v'.ownBlock = D.pv.ownBlock ∨ v'.ownBlock = some w1.heap.size) :
    Mc K M (w2.setCell ⟨M, 15, none⟩ v') { m with pr := m.pr ++ [l] } { D with pv := v' } ∧ Fr (mown M D) w (w2.setCell ⟨M, 15, none⟩ v') ∧ ∀ b, v'.ownBlock = some b → D.pv.ownBlock = some b ∨ w.heap.size ≤ b := by
  have hsz := hF.size
  have h1 := h.fr hF
  obtain ⟨k, n, p, pr, bd, q, r, hV, hb⟩ := h1.cells
  have hF2 : Fr (fun b => D.pv.ownBlock = some b) w1 w2 := (Fr.refl _ w1).grown hg fun k hk => .inl hk
  have hF3 : Fr (mown M D) w1 (w2.setCell ⟨M, 15, none⟩ v') := (hF2.mono (fun _ h => .inl (.inr h))).setCell (.inl (.inl rfl)) _
  have hF2q : Fr (fun b => b = M) w2 (w2.setCell ⟨M, 15, none⟩ v') := (by repeat (first | with_reducible exact Fr.refl _ _ | (with_reducible refine Fr.drew ?_) | (with_reducible refine Fr.drewN ?_ _) | (with_reducible refine Fr.alloc ?_ _) | ((with_reducible refine Fr.setCell ?_ ?_ _); rotate_left; first | exact .inl rfl | exact .inr (Nat.le_refl _) | exact .inl (Nat.le_refl _) | (focus (left; simp; done)) | (focus (left; simp; omega)) | (focus (left; omega)) | (focus (right; simp; done)) | (focus (right; simp; omega)) | (focus (right; omega))) | exact Fr.refl _ _))
  have hkp := h1.kp hF3
  have hnew : ∀ b, v'.ownBlock = some b → D.pv.ownBlock = some b ∨ w1.heap.size ≤ b := fun b hb => by
    rcases hv with h2 | h2
    · exact .inl (h2 ▸ hb)
    · rw [h2] at hb; cases hb; exact .inr (Nat.le_refl _)
  have hM2 : w2.heap[M]? = some (.cells #[pT K.cb, D.iv, .bool m.lk, iV m.ex, D.sp, iV k, iV n, p, iV pr, iV bd, q, r, D.wp, iV m.st, .string (bz m.tx), D.pv, iV m.jm] 198 (0, 0)) := (hF2.block M (blk_lt hb) (fun e => by have := (h1.pr.lt M e).1; omega)).trans hb
  have hB := blk_set (i := 15) (v := v') (c' := #[pT K.cb, D.iv, .bool m.lk, iV m.ex, D.sp, iV k, iV n, p, iV pr, iV bd, q, r, D.wp, iV m.st, .string (bz m.tx), v', iV m.jm]) hM2 rfl
  refine ⟨⟨by unfold mCells; simp only [hV]; exact hB, h1.cd.keep fun b hc => hF3.block b (h1.cd.lt b hc) (fun e => ?_), h1.old, h1.inp.keep fun hne b cur hbi hg => hF3.block b (blk_lt hg) (fun e => ?_), h1.sg.keep hkp, h1.val.keep hkp, h1.wt.keep hkp, ?_, fun hne b hb e => ?_, h1.tb.fr hF3 (fun b hb => ?_), h1.three⟩, (hF.mono (fun _ h => h.elim)).trans hF3 (fun _ h => .inl h), fun b hb => ?_⟩
  · have := h1.old b hc
    rcases e with rfl | e
    · omega
    · have := (h1.pr.lt b e).1; omega
  · rcases e with rfl | e
    · have := ty_eq hg h1.blk
      revert this
      decide
    · exact h1.ip hne b hbi e
  · have hr2 := rowKeep hF2q hr (fun b hb e => by have := (hr.lt b hb).1; omega)
    simpa using hr2
  · rcases hnew b e with h2 | h2
    · exact h1.ip hne b hb h2
    · rcases h1.inp with ⟨h3, _⟩ | ⟨g, off, cap, cur, h3, h4, _⟩
      · exact hne h3
      · simp only at hb
        rw [h3] at hb
        cases hb
        have := blk_lt h4
        simp only at h2
        omega
  · have := h1.three
    rcases hb with rfl | hb
    · exact this
    · have := (h1.pr.lt b hb).1; omega
  · rcases hnew b hb with h2 | h2
    · exact .inl h2
    · exact .inr (by omega)

/-- A wait's block, whole. -/
theorem wt_blk {i : Int} {b : Bool} {v s nx : Code} {x : Value} (h : Lies w (wMk i b v s nx) 2 [x]) : ∃ g kv nv pv prv bdv qv rv ps pn, x = pT g ∧ w.heap[g]? = some (.cells #[iV i, .pointer ps, .bool b, iV kv, iV nv, .pointer pv, iV prv, iV bdv, .pointer qv, .pointer rv, .pointer pn] 250 (0, 0)) ∧
    Lies w v 0 (vCells kv nv (.pointer pv) prv bdv (.pointer qv) (.pointer rv)) ∧ Lies w s 1 [.pointer ps] ∧ Lies w nx 2 [.pointer pn] := by
  rcases wt_out h with ⟨h1, _⟩ | ⟨i', b', v', s', nx', V, ps, pn, g, h1, h2, h3, h4, h5, h6⟩
  · cases h1
  unfold wMk cP cN at h1
  simp only [Code.seq.injEq, Code.cond.injEq, Operand.const.injEq, Value.int.injEq, true_and, and_true] at h1
  obtain ⟨⟨rfl, hb, rfl, rfl⟩, rfl⟩ := h1
  obtain rfl : b = b' := by
    cases b <;> cases b' <;> simp at hb ⊢
  obtain ⟨ops, rfl⟩ := ptr_of h5 (.inl rfl)
  obtain ⟨opn, rfl⟩ := ptr_of h6 (.inr (.inl rfl))
  obtain ⟨kv, nv, _, prv, bdv, _, _, pv, qv, rv, _, rfl, _⟩ := val_out h4
  obtain ⟨⟨o1, rfl⟩, ⟨o2, rfl⟩, o3, rfl⟩ := val_ptrs h4
  exact ⟨g, kv, nv, o1, prv, bdv, o2, o3, ops, opn, h2, h3, h4, h5, h6⟩

theorem wt_shape {c : Code} {x : Value} (h : Lies w c 2 [x]) : (c = .skip ∧ x = pN) ∨ ∃ i b v s nx, c = wMk i b v s nx := by
  rcases wt_out h with h1 | ⟨i, b, v, s, nx, _, _, _, _, h1, _⟩
  · exact .inl h1
  · exact .inr ⟨i, b, v, s, nx, h1⟩

theorem wt_cells {g : Nat} {a0 a1 a2 a3 a4 a5 a6 a7 a8 a9 a10 : Value} {ty : TypeId} (h : w.heap[g]? = some (.cells #[a0, a1, a2, a3, a4, a5, a6, a7, a8, a9, a10] ty (0, 0))) :
    w.cell? ⟨g, 0, none⟩ = some a0 ∧ w.cell? ⟨g, 1, none⟩ = some a1 ∧ w.cell? ⟨g, 2, none⟩ = some a2 ∧ w.cell? ⟨g, 3, none⟩ = some a3 ∧ w.cell? ⟨g, 4, none⟩ = some a4 ∧ w.cell? ⟨g, 5, none⟩ = some a5 ∧ w.cell? ⟨g, 6, none⟩ = some a6 ∧ w.cell? ⟨g, 7, none⟩ = some a7 ∧ w.cell? ⟨g, 8, none⟩ = some a8 ∧ w.cell? ⟨g, 9, none⟩ = some a9 ∧ w.cell? ⟨g, 10, none⟩ = some a10 := by
  simp [World.cell?, h]

/-- An expression of the code, as it lies. -/
theorem Mc.ex (h : Mc K M w m D) {i : Int} {kk nu bi e1 e2 e3 : Int} {fs : List (Int × Int × Int)} {am : List (Int × Int)} (he : expAt K.c.t i = some ⟨kk, nu, bi, e1, e2, e3, fs, am⟩) : ∃ (eg ecap j : Nat) (fa aa : Option Addr) (fc ac : Nat), i = (j : Int) ∧ ((j : Int) < (K.c.t.exps.length : Int) ∧ K.c.t.exps.length ≤ 200000 ∧ eg < w.heap.size ∧ K.cb < w.heap.size ∧ w.cell? ⟨K.cb, 0, none⟩ = some (.slice (some ⟨eg, 0, none⟩) K.c.t.exps.length ecap)) ∧
    (w.cell? ⟨eg, j * 8, none⟩ = some (iV kk) ∧ w.cell? ⟨eg, j * 8 + 1, none⟩ = some (iV nu) ∧ w.cell? ⟨eg, j * 8 + 2, none⟩ = some (iV bi) ∧ w.cell? ⟨eg, j * 8 + 3, none⟩ = some (iV e1) ∧ w.cell? ⟨eg, j * 8 + 4, none⟩ = some (iV e2) ∧ w.cell? ⟨eg, j * 8 + 5, none⟩ = some (iV e3) ∧ w.cell? ⟨eg, j * 8 + 6, none⟩ = some (.slice fa fs.length fc) ∧ w.cell? ⟨eg, j * 8 + 7, none⟩ = some (.slice aa am.length ac)) ∧
    w.ownsRow 0 165 3 (.slice fa fs.length fc) fs.length (funCells fs) ∧ w.ownsRow 0 264 2 (.slice aa am.length ac) am.length (armCells am) := by
  obtain ⟨eg, ecap, j, vf, va, hE, hj, hjl, hgl, hAt, -, x0, x1, x2, x3, x4, x5, x6, x7⟩ := h.cd.tr.ex he
  obtain ⟨fa, fc, rfl⟩ := ownsRow_len hAt.f
  obtain ⟨aa, ac, rfl⟩ := ownsRow_len hAt.a
  have hc := (mc6 h.cd.blk).1
  rw [hE] at hc
  exact ⟨eg, ecap, j, fa, aa, fc, ac, hj, ⟨by omega, h.cd.ne, hgl, blk_lt h.cd.blk, hc⟩, ⟨x0, x1, x2, x3, x4, x5, x6, x7⟩, hAt.f, hAt.a⟩

set_option maxHeartbeats 3200000 in
set_option maxRecDepth 100000 in
theorem raise_c (h : Mc K M w m D) {n : Int} (hx : kRaise K.c.t m n m.wt = some m') :
    Calls Tryz.prog 151 #[pT M, iV n] w fun e w' => e = .returned (.tuple #[]) ∧ Mn K M w D w' m' := by
  have HX : Hid (kRaise K.c.t m n m.wt = some m') := hx
  have H : Hid (Mc K M w m D) := h
  clear h hx
  go_enter Tryz.func151, Tryz.ntmps151
  go_wp2_with fail
  go_loopg [4] (cLen m.wt) (fun k _ wr => ∃ (c : Code) (D' : MD), k = cLen c ∧ kRaise K.c.t m n c = some m' ∧ Mc K M wr { m with wt := c } D' ∧ D'.pv = D.pv ∧ Fr (fun b => b = M) w wr)
  case atStart => exact ⟨m.wt, D, rfl, HX.out, H.out, rfl, Fr.refl _ _⟩
  case round =>
    obtain ⟨c, D', hk, hx, h, hP, hF⟩ := hrel
    have HM : Hid (gk = cLen c) := hk
    have HP : Hid (D'.pv = D.pv) := hP
    have HF : Hid (Fr (fun b => b = M) w wr) := hF
    have HC : Hid (Mc K M wr { m with wt := c } D') := h
    obtain ⟨kk, nn, pp, prr, bdd, qq, rr, hV, hb⟩ := h.cells
    obtain ⟨⟨c0, c1, c2, c3, c4, c5, c6, c7, c8, c9, c10, c11, c12, c13, c14, c15, c16⟩, hf⟩ := mc17 hb
    have f12 := hf 12
    have hl := blk_lt hb
    rcases wt_shape h.wt with ⟨rfl, hwp⟩ | ⟨i, bb, v, s, nx, rfl⟩
    · rw [hwp] at c12
      unfold kRaise at hx
      split at hx
      case isFalse => cases hx
      case isTrue h64 =>
      injection hx with hx
      subst hx
      unfold in64 at h64
      simp only [Bool.and_eq_true, decide_eq_true_eq] at h64
      have H64 : Hid _ := h64
      clear hk hP hF h hV hb hf h64 hwp
      go_wp2_with fail
      refine (itOk _ n HC.out.tb H64.out.1 H64.out.2).mono ?_
      rintro r1 w1 ⟨rfl, hF1⟩
      have HF1 : Hid (Fr (fun _ => False) wr w1) := hF1
      clear hF1
      go_wp2_with fail
      refine (end_c (HC.out.fr HF1.out)).mono ?_
      rintro r2 w2 ⟨rfl, hN⟩
      have HN : Hid (Mn K M w D w2 (kEnd m 2 (decI n))) := (hN.pre HF1.out).step HF.out HP.out
      clear hN
      go_wp2_with fail
      (first | go_end0 | ((try simp only [Exit.inBlock, Exit.then]); refine bodyPost_ret (results_none rfl _ _ _) rfl ?_))
      exact ⟨rfl, HN.out⟩
    · obtain ⟨g, kv, nv, pv, prv, bdv, qv, rv, ps, pn, hwp, hg, hlv, hls, hln⟩ := wt_blk h.wt
      rw [hwp] at c12
      obtain ⟨z0, z1, z2, z3, z4, z5, z6, z7, z8, z9, z10⟩ := wt_cells hg
      have zl := blk_lt hg
      have hSW := h.setWt hln
      have HW : Hid (Mc K M (wr.setCell ⟨M, 12, none⟩ (.pointer pn)) { m with wt := nx } { D' with wp := .pointer pn } ∧ Fr (fun b => b = M) wr (wr.setCell ⟨M, 12, none⟩ (.pointer pn))) := hSW
      have HG : Hid (wr.heap[g]? = some (.cells #[iV i, .pointer ps, .bool bb, iV kv, iV nv, .pointer pv, iV prv, iV bdv, .pointer qv, .pointer rv, .pointer pn] 250 (0, 0))) := hg
      have HS : Hid (Lies wr s 1 [.pointer ps]) := hls
      have hx' : (expAt K.c.t i).bind (fun e => if e.kind = 15 then some (kIn { m with wt := nx } s e.binder (vNum n) e.second) else kRaise K.c.t m n nx) = some m' := hx
      obtain ⟨e, he, hx2⟩ := bindO hx'
      have HE : Hid (expAt K.c.t i = some e) := he
      have HX2 : Hid _ := hx2
      clear hk hP hF h hV hb hf hx hx' he hx2 hSW hg hlv hls hln hwp HX
      go_upto_region 3 with fail
      generalize wr.setCell ⟨M, 12, none⟩ (.pointer pn) = W at HW ⊢
      clear c0 c1 c2 c3 c4 c5 c6 c7 c8 c9 c10 c11 c12 c13 c14 c15 c16 f12 hl z0 z1 z2 z3 z4 z5 z6 z7 z8 z9 z10 zl
      have hgW : W.heap[g]? = some (.cells #[iV i, .pointer ps, .bool bb, iV kv, iV nv, .pointer pv, iV prv, iV bdv, .pointer qv, .pointer rv, .pointer pn] 250 (0, 0)) := (HW.out.2.block g (blk_lt HG.out) (fun e => by subst e; exact absurd (ty_eq HG.out HC.out.blk) (by decide))).trans HG.out
      obtain ⟨z0, z1, z2, z3, z4, z5, z6, z7, z8, z9, z10⟩ := wt_cells hgW
      have zl := blk_lt hgW
      obtain ⟨kk', nn', pp', prr', bdd', qq', rr', -, hb'⟩ := HW.out.1.cells
      obtain ⟨⟨c0, -⟩, -⟩ := mc17 hb'
      have hl := blk_lt hb'
      obtain ⟨ek, nu, bi, e1, e2, e3, fs, am⟩ := e
      obtain ⟨eg, ecap, j, fa, aa, fc, ac, rfl, ⟨hj1, hj2, hj3, hj4, hj5⟩, ⟨x0, x1, x2, x3, x4, x5, x6, x7⟩, -, -⟩ := HW.out.1.ex HE.out
      have HSW : Hid (Lies W s 1 [.pointer ps]) := HS.out.keep (HC.out.kpM HW.out.2)
      clear hgW hb' HE HG HS
      go_region
      have hx := HX2.out
      simp only at hx
      clear HX2
      by_cases he15 : ek = 15
      · rw [if_pos he15] at hx
        subst he15
        injection hx with hx
        subst hx
        go_wp2_with fail
        refine region_tail 11 mixed (by kernel_rfl) ?_
        simp only [List.take_succ_cons, List.take_zero, List.drop_succ_cons, List.drop_zero]
        repeat still_step
        refine wpStill_nil ?_
        go_wp2_with fail
        generalize hW2 : (W.alloc (.cells #[iV 15, iV nu, iV bi, iV e1, iV e2, iV e3, .slice fa fs.length fc, .slice aa am.length ac] 162)).drew.drew = W2
        have HF2 : Hid (Fr (fun _ => False) W W2) := by rw [← hW2]; show Fr _ _ _; exact (by repeat (first | with_reducible exact Fr.refl _ _ | (with_reducible refine Fr.drew ?_) | (with_reducible refine Fr.drewN ?_ _) | (with_reducible refine Fr.alloc ?_ _) | ((with_reducible refine Fr.setCell ?_ ?_ _); rotate_left; first | exact .inl rfl | exact .inr (Nat.le_refl _) | exact .inl (Nat.le_refl _) | (focus (left; simp; done)) | (focus (left; simp; omega)) | (focus (left; omega)) | (focus (right; simp; done)) | (focus (right; simp; omega)) | (focus (right; omega))) | exact Fr.refl _ _))
        clear hW2
        refine (within_c (HW.out.1.fr HF2.out) (HSW.out.keep (HF2.out.kp fun _ _ _ h => h.elim)) (V := vCells 1 n pN 0 0 pN pN) (v := vNum n) (val_in nil3 nil1 nil2)).mono ?_
        rintro r1 w1 ⟨rfl, hN⟩
        have HN : Hid (Mn K M w D w1 (kIn { m with wt := nx } s bi (vNum n) e2)) := ((hN.pre HF2.out).step HW.out.2 rfl).step HF.out HP.out
        clear hN
        go_wp2_with fail
        (first | go_end0 | ((try simp only [Exit.inBlock, Exit.then]); refine bodyPost_ret (results_none rfl _ _ _) rfl ?_))
        exact ⟨rfl, HN.out⟩
      · rw [if_neg he15] at hx
        have HX3 : Hid (kRaise K.c.t m n nx = some m') := hx
        clear hx
        go_wp2_with fail
        go_roundg (cLen nx)
        case measure => rw [HM.out]; exact Nat.lt_succ_self _
        case rel =>
          have hA : Fr (fun _ => False) W (W.alloc (.cells #[iV ek, iV nu, iV bi, iV e1, iV e2, iV e3, .slice fa fs.length fc, .slice aa am.length ac] 162)).drew := (by repeat (first | with_reducible exact Fr.refl _ _ | (with_reducible refine Fr.drew ?_) | (with_reducible refine Fr.drewN ?_ _) | (with_reducible refine Fr.alloc ?_ _) | ((with_reducible refine Fr.setCell ?_ ?_ _); rotate_left; first | exact .inl rfl | exact .inr (Nat.le_refl _) | exact .inl (Nat.le_refl _) | (focus (left; simp; done)) | (focus (left; simp; omega)) | (focus (left; omega)) | (focus (right; simp; done)) | (focus (right; simp; omega)) | (focus (right; omega))) | exact Fr.refl _ _))
          exact ⟨nx, { D' with wp := .pointer pn }, rfl, HX3.out, HW.out.1.fr hA, HP.out, (HF.out.trans HW.out.2 (fun _ h => .inl h)).trans hA (fun _ h => h.elim)⟩

theorem mul_in {a b : Int} (ha : -2147483648 ≤ a ∧ a ≤ 2147483647) (hb : -2147483648 ≤ b ∧ b ≤ 2147483647) : -4611686018427387904 ≤ a * b ∧ a * b ≤ 4611686018427387904 := by
  have h1 : a.natAbs ≤ 2147483648 := by omega
  have h2 : b.natAbs ≤ 2147483648 := by omega
  have h3 : (a * b).natAbs ≤ 2147483648 * 2147483648 := by rw [Int.natAbs_mul]; exact Nat.mul_le_mul h1 h2
  omega

theorem tdiv_in {a b : Int} (ha : -2147483648 ≤ a ∧ a ≤ 2147483647) : -2147483648 ≤ a.tdiv b ∧ a.tdiv b ≤ 2147483648 := by
  have h1 : (a.tdiv b).natAbs ≤ 2147483648 := by
    rw [Int.natAbs_tdiv]
    exact Nat.le_trans (Nat.div_le_self _ _) (by omega)
  omega

set_option maxHeartbeats 3200000 in
set_option maxRecDepth 100000 in
theorem compute_c (h : Mc K M w m D) {f : Nat} {k a b : Int} (ha : -2147483648 ≤ a ∧ a ≤ 2147483647) (hb : -2147483648 ≤ b ∧ b ≤ 2147483647)
    (hx : (if k = 18 then kNum f m (a + b) else if k = 19 then kNum f m (a - b) else if k = 20 then kNum f m (a * b) else if k = 21 then (if b = 0 then kRaise K.c.t m (-1) m.wt else kNum f m (a.tdiv b)) else some m) = some m') :
    Calls Tryz.prog 243 #[pT M, iV k, iV a, iV b] w fun e w' => e = .returned (.tuple #[]) ∧ Mn K M w D w' m' := by
  have H : Hid (Mc K M w m D) := h
  clear h
  go_enter Tryz.func243, Tryz.ntmps243
  by_cases k18 : k = 18
  · rw [if_pos k18] at hx
    subst k18
    have HX : Hid (kNum f m (a + b) = some m') := hx
    have e1 : IntKind.i64.wrap (a + b) = a + b := by rw [IntKind.wrap_i64]; omega
    clear hx
    go_wp2_with fail
    refine (number_c H.out HX.out).mono ?_
    rintro r1 w1 ⟨rfl, hN⟩
    have HN : Hid (Mn K M w D w1 m') := hN
    clear hN
    go_wp2_with fail
    (first | go_end0 | ((try simp only [Exit.inBlock, Exit.then]); refine bodyPost_ret (results_none rfl _ _ _) rfl ?_))
    exact ⟨rfl, HN.out⟩
  rw [if_neg k18] at hx
  by_cases k19 : k = 19
  · rw [if_pos k19] at hx
    subst k19
    have HX : Hid (kNum f m (a - b) = some m') := hx
    have e1 : IntKind.i64.wrap (a - b) = a - b := by rw [IntKind.wrap_i64]; omega
    clear hx
    go_wp2_with fail
    refine (number_c H.out HX.out).mono ?_
    rintro r1 w1 ⟨rfl, hN⟩
    have HN : Hid (Mn K M w D w1 m') := hN
    clear hN
    go_wp2_with fail
    (first | go_end0 | ((try simp only [Exit.inBlock, Exit.then]); refine bodyPost_ret (results_none rfl _ _ _) rfl ?_))
    exact ⟨rfl, HN.out⟩
  rw [if_neg k19] at hx
  by_cases k20 : k = 20
  · rw [if_pos k20] at hx
    subst k20
    have HX : Hid (kNum f m (a * b) = some m') := hx
    have hm := mul_in ha hb
    have e1 : IntKind.i64.wrap (a * b) = a * b := by rw [IntKind.wrap_i64]; omega
    have e2 : RowKit.wrap64 (a * b) = a * b := by unfold RowKit.wrap64; omega
    clear hx
    go_wp2_with fail
    refine (number_c H.out HX.out).mono ?_
    rintro r1 w1 ⟨rfl, hN⟩
    have HN : Hid (Mn K M w D w1 m') := hN
    clear hN
    go_wp2_with fail
    (first | go_end0 | ((try simp only [Exit.inBlock, Exit.then]); refine bodyPost_ret (results_none rfl _ _ _) rfl ?_))
    exact ⟨rfl, HN.out⟩
  rw [if_neg k20] at hx
  by_cases k21 : k = 21
  · rw [if_pos k21] at hx
    subst k21
    by_cases hb0 : b = 0
    · rw [if_pos hb0] at hx
      subst hb0
      have HX : Hid (kRaise K.c.t m (-1) m.wt = some m') := hx
      clear hx
      go_wp2_with fail
      refine (raise_c H.out HX.out).mono ?_
      rintro r1 w1 ⟨rfl, hN⟩
      have HN : Hid (Mn K M w D w1 m') := hN
      clear hN
      go_wp2_with fail
      (first | go_end0 | ((try simp only [Exit.inBlock, Exit.then]); refine bodyPost_ret (results_none rfl _ _ _) rfl ?_))
      exact ⟨rfl, HN.out⟩
    · rw [if_neg hb0] at hx
      have HX : Hid (kNum f m (a.tdiv b) = some m') := hx
      have hm := tdiv_in (b := b) ha
      have e1 : IntKind.i64.wrap (a.tdiv b) = a.tdiv b := by rw [IntKind.wrap_i64]; omega
      have e2 : RowKit.wrap64 (a.tdiv b) = a.tdiv b := by unfold RowKit.wrap64; omega
      clear hx
      go_wp2_with fail
      refine (number_c H.out HX.out).mono ?_
      rintro r1 w1 ⟨rfl, hN⟩
      have HN : Hid (Mn K M w D w1 m') := hN
      clear hN
      go_wp2_with fail
      (first | go_end0 | ((try simp only [Exit.inBlock, Exit.then]); refine bodyPost_ret (results_none rfl _ _ _) rfl ?_))
      exact ⟨rfl, HN.out⟩
  rw [if_neg k21] at hx
  injection hx with hx
  subst hx
  go_wp2_with fail
  (first | go_end0 | ((try simp only [Exit.inBlock, Exit.then]); refine bodyPost_ret (results_none rfl _ _ _) rfl ?_))
  exact ⟨rfl, .of H.out (Fr.refl _ _) rfl⟩
end
end Go.Proofs.YtklimomeendajaaGreatDoor

/- machine: own, anyUsed. -/
namespace Go.Proofs.YtklimomeendajaaGreatDoor
open Go.RowKit

section
variable {K : MC} {M : Nat} {w w' : World} {m m' : MX} {D D' : MD}

/-- A sight's block, whole. -/
theorem sg_blk {b l : Int} {v o nx : Code} {x : Value} (h : Lies w (sMk b l v o nx) 1 [x]) : ∃ g kv nv pv prv bdv qv rv po pn, x = pT g ∧ w.heap[g]? = some (.cells #[iV b, iV kv, iV nv, .pointer pv, iV prv, iV bdv, .pointer qv, .pointer rv, iV l, .pointer po, .pointer pn] 247 (0, 0)) ∧
    Lies w v 0 (vCells kv nv (.pointer pv) prv bdv (.pointer qv) (.pointer rv)) ∧ Lies w o 1 [.pointer po] ∧ Lies w nx 1 [.pointer pn] := by
  rcases sg_out h with ⟨h1, _⟩ | ⟨b', l', v', o', nx', V, po, pn, g, h1, h2, h3, h4, h5, h6⟩
  · cases h1
  unfold sMk cP cN at h1
  simp only [Code.seq.injEq, Code.cond.injEq, Operand.const.injEq, Value.int.injEq, true_and, and_true] at h1
  obtain ⟨⟨rfl, rfl, rfl, rfl⟩, rfl⟩ := h1
  obtain ⟨opo, rfl⟩ := ptr_of h5 (.inl rfl)
  obtain ⟨opn, rfl⟩ := ptr_of h6 (.inl rfl)
  obtain ⟨kv, nv, _, prv, bdv, _, _, pv, qv, rv, _, rfl, _⟩ := val_out h4
  obtain ⟨⟨o1, rfl⟩, ⟨o2, rfl⟩, o3, rfl⟩ := val_ptrs h4
  exact ⟨g, kv, nv, o1, prv, bdv, o2, o3, opo, opn, h2, h3, h4, h5, h6⟩

theorem sg_shape {c : Code} {x : Value} (h : Lies w c 1 [x]) : (c = .skip ∧ x = pN) ∨ ∃ b l v o nx, c = sMk b l v o nx := by
  rcases sg_out h with h1 | ⟨b, l, v, o, nx, _, _, _, _, h1, _⟩
  · exact .inl h1
  · exact .inr ⟨b, l, v, o, nx, h1⟩

set_option maxHeartbeats 800000 in
set_option maxRecDepth 100000 in
theorem own_c {b l : Int} {v o nx : Code} {x : Value} (h : Lies w (sMk b l v o nx) 1 [x]) :
    Calls Tryz.prog 213 #[x] w fun e w' => w' = w ∧ ∃ p, e = .returned (.pointer p) ∧ Lies w (kOwn (sMk b l v o nx)) 1 [.pointer p] := by
  have HL : Hid (Lies w (sMk b l v o nx) 1 [x]) := h
  obtain ⟨g, kv, nv, pv, prv, bdv, qv, rv, po, pn, rfl, hg, hv, ho, hn⟩ := sg_blk h
  have HO : Hid (Lies w o 1 [.pointer po]) := ho
  obtain ⟨z0, z1, z2, z3, z4, z5, z6, z7, z8, z9, z10⟩ := wt_cells hg
  have zl := blk_lt hg
  have e1 : kOwn (sMk b l v o nx) = if isC o then o else sMk b l v o nx := rfl
  rcases sg_shape ho with ⟨rfl, hp⟩ | ⟨b', l', v', o', nx', rfl⟩
  · injection hp with hp
    subst hp
    rw [e1, if_neg (by simp [isC])]
    clear h hg hv ho hn e1
    go_enter Tryz.func213, Tryz.ntmps213
    go_wp2_with fail
    go_ret
    exact ⟨rfl, _, rfl, HL.out⟩
  · obtain ⟨g', _, _, _, _, _, _, _, _, _, hp, -⟩ := sg_blk ho
    injection hp with hp
    subst hp
    rw [e1, if_pos (show isC (sMk b' l' v' o' nx') = true from rfl)]
    clear h hg hv ho hn e1
    go_enter Tryz.func213, Tryz.ntmps213
    go_wp2_with fail
    go_ret
    exact ⟨rfl, _, rfl, HO.out⟩

theorem getb_has {u : List Bool} {i : Int} {b : Bool} (h : getb u i = some b) : ∃ n : Nat, i = (n : Int) ∧ n < u.length ∧ u[n]? = some b := by
  unfold getb at h
  split at h
  · obtain ⟨hlt, he⟩ := List.getElem?_eq_some_iff.1 h
    exact ⟨i.toNat, by omega, hlt, h⟩
  · cases h

/-- A row of what is kept that has an element. -/
theorem K1At.cell {lo : Nat} {u : List Bool} {x : Value} (h : K1At w lo u x) {n : Nat} {b : Bool} (hn : u[n]? = some b) : ∃ g, x = .slice (some ⟨g, 0, none⟩) u.length u.length ∧ g < w.heap.size ∧ w.cell? ⟨g, n, none⟩ = some (.bool b) := by
  obtain ⟨hlt, he⟩ := List.getElem?_eq_some_iff.1 hn
  rcases h with ⟨rfl, _⟩ | ⟨g, _, hx, hg⟩
  · simp at hlt
  · exact ⟨g, hx, blk_lt hg, by simp [World.cell?, hg, hlt, he]⟩

set_option maxHeartbeats 1600000 in
set_option maxRecDepth 100000 in
theorem anyUsed_c (h : Mc K M w m D) {u : List Bool} {x : Value} {lo : Nat} (hu : K1At w lo u x) {l : Int} {e : EX} (he : expAt K.c.t l = some e) {b : Bool} (hb : kAny u e.funs = some b) :
    Calls Tryz.prog 212 #[pT M, iV l, x] w fun e w' => w' = w ∧ e = .returned (.bool b) := by
  obtain ⟨ek, nu, bi, e1, e2, e3, fs, am⟩ := e
  obtain ⟨eg, ecap, j, fa, aa, fc, ac, rfl, ⟨hj1, hj2, hj3, hj4, hj5⟩, ⟨x0, x1, x2, x3, x4, x5, x6, x7⟩, hfr, -⟩ := h.ex he
  obtain ⟨xa, xn, xc, rfl⟩ : ∃ p q r, x = .slice p q r := by rcases hu with ⟨_, rfl⟩ | ⟨_, _, rfl, _⟩ <;> exact ⟨_, _, _, rfl⟩
  have HU : Hid (K1At w lo u (.slice xa xn xc)) := hu
  have HFR : Hid (w.ownsRow 0 165 3 (.slice fa fs.length fc) fs.length (funCells fs)) := hfr
  have hfl := row_le hfr
  simp only at hb
  have HB0 : Hid (kAny u fs = some b) := hb
  clear hu hfr hb he
  obtain ⟨k, n, p, pr, bd, q, r, hV, hb⟩ := h.cells
  obtain ⟨⟨c0, c1, c2, c3, c4, c5, c6, c7, c8, c9, c10, c11, c12, c13, c14, c15, c16⟩, hf⟩ := mc17 hb
  have f1 := hf 1; have f2 := hf 2; have f3 := hf 3; have f4 := hf 4; have f5 := hf 5; have f6 := hf 6; have f7 := hf 7; have f8 := hf 8; have f9 := hf 9; have f10 := hf 10; have f11 := hf 11; have f12 := hf 12; have f13 := hf 13; have f14 := hf 14; have f15 := hf 15; have f16 := hf 16
  have hl := blk_lt hb
  have H : Hid (Mc K M w m D) := h
  have HB : Hid (w.heap[M]? = some (.cells #[pT K.cb, D.iv, .bool m.lk, iV m.ex, D.sp, iV k, iV n, p, iV pr, iV bd, q, r, D.wp, iV m.st, .string (bz m.tx), D.pv, iV m.jm] 198 (0, 0))) := hb
  have HV : Hid (D.V = vCells k n p pr bd q r) := hV
  clear h hb hf hV
  go_enter Tryz.func212, Tryz.ntmps212
  go_wp2_with fail
  go_loopg [8] fs.length (fun k iv wr => ∃ (i : Nat), iv = .int .i64 i ∧ i ≤ fs.length ∧ k = fs.length - i ∧ wr = w ∧ kAny u (fs.drop i) = some b)
  case atStart => exact ⟨0, rfl, Nat.zero_le _, rfl, rfl, HB0.out⟩
  case round =>
    obtain ⟨i, rfl, hi, hk, rfl, hx⟩ := hrel
    have HM : Hid (gk = fs.length - i) := hk
    clear hk
    by_cases hil : i < fs.length
    · obtain ⟨fg, fcap, hfv, y0, y1, y2⟩ := funRow HFR.out hil
      injection hfv with hfa hfl2 hfc
      clear hfl2
      subst hfa hfc
      have hfgl : fg < wr.heap.size := (HFR.out.lt fg rfl).2
      rw [List.drop_eq_getElem_cons hil] at hx
      unfold kAny at hx
      obtain ⟨b1, hb1, hx⟩ := bindO hx
      obtain ⟨ub, hub, hul2, hub2⟩ := getb_has hb1
      obtain ⟨ug, hux, hug, cu⟩ := HU.out.cell hub2
      injection hux with hxa hxn hxc
      subst hxa hxn hxc
      rw [hub] at y0
      have q1 : (i : Int) < (fs.length : Int) := by omega
      have q2 : (ub : Int) < (u.length : Int) := by omega
      cases b1 with
      | true =>
        rw [if_pos rfl] at hx
        injection hx with hx
        subst hx
        clear hb1 hub hub2
        go_wp2_with fail
        go_ret
        exact ⟨rfl, rfl⟩
      | false =>
        rw [if_neg (by decide)] at hx
        have HX : Hid (kAny u (fs.drop (i + 1)) = some b) := hx
        clear hx hb1 hub hub2
        go_wp2_with fail
        go_roundg (fs.length - (i + 1))
        case measure => rw [HM.out]; omega
        case rel => exact ⟨i + 1, by go_num, by omega, rfl, rfl, HX.out⟩
    · obtain rfl : i = fs.length := by omega
      rw [List.drop_length] at hx
      simp only [kAny, Option.some.injEq] at hx
      subst hx
      go_wp2_with fail
      go_ret
      exact ⟨rfl, rfl⟩
end
end Go.Proofs.YtklimomeendajaaGreatDoor
