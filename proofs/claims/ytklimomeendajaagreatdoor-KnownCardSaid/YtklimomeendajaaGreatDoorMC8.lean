import Derived.Test.YtklimomeendajaaGreatDoorMC7
set_option linter.unusedVariables false
set_option linter.unusedSimpArgs false
/- machine: look. -/
namespace Go.Proofs.YtklimomeendajaaGreatDoor
open Go.RowKit

section
variable {K : MC} {M : Nat} {w w' : World} {m m' : MX} {D D' : MD} {nu bi e1 e2 e3 : Int} {fs : List (Int × Int × Int)} {am : List (Int × Int)} {f : Nat}

theorem KAt.get {lo : Nat} : ∀ {l : List (List Bool)} {c : List Value}, KAt w lo l c → ∀ {i : Nat} {u : List Bool}, l[i]? = some u → ∃ v, c[i]? = some v ∧ K1At w lo u v
  | [], _, _, i, u, hi => by simp at hi
  | x :: l, _, ⟨v, c', hc, h1, h2⟩, 0, u, hi => by
    simp only [List.getElem?_cons_zero, Option.some.injEq] at hi
    subst hi
    exact ⟨v, by rw [hc]; rfl, h1⟩
  | x :: l, _, ⟨v, c', hc, h1, h2⟩, i + 1, u, hi => by
    rw [List.getElem?_cons_succ] at hi
    obtain ⟨v', hv', hk⟩ := KAt.get h2 hi
    exact ⟨v', by rw [hc]; simpa using hv', hk⟩

/-- What is kept for an expression, as it lies. -/
theorem Mc.kept (h : Mc K M w m D) {i : Nat} {u : List Bool} (hu : K.c.kp[i]? = some u) : ∃ g cap va vn vc, w.cell? ⟨K.cb, 5, none⟩ = some (.slice (some ⟨g, 0, none⟩) K.c.kp.length cap) ∧ (i : Int) < (K.c.kp.length : Int) ∧ g < w.heap.size ∧ w.cell? ⟨g, i, none⟩ = some (.slice va vn vc) ∧ K1At w 0 u (.slice va vn vc) := by
  obtain ⟨hlt, -⟩ := List.getElem?_eq_some_iff.1 hu
  obtain ⟨v, hv, hk⟩ := h.cd.kAt.get hu
  have hc := (mc6 h.cd.blk).2.2.2.2.2
  obtain ⟨va, vn, vc, rfl⟩ : ∃ p q r, v = .slice p q r := by rcases hk with ⟨_, rfl⟩ | ⟨_, _, rfl, _⟩ <;> exact ⟨_, _, _, rfl⟩
  rcases h.cd.k.2 with ⟨_, h0⟩ | ⟨g, cap, cur, he, hg⟩
  · omega
  · rw [he] at hc
    have hr := h.cd.k
    rw [he] at hr
    refine ⟨g, cap, va, vn, vc, hc, by omega, (hr.lt g rfl).2, ?_, hk⟩
    rw [World.ownsRow.cellAt hr i (by omega)]
    exact hv

theorem Mc.means (h : Mc K M w m D) {i : Nat} {b : Int} (hb : geti K.c.ms i = some b) : ∃ g cap, w.cell? ⟨K.cb, 4, none⟩ = some (.slice (some ⟨g, 0, none⟩) K.c.ms.length cap) ∧ (i : Int) < (K.c.ms.length : Int) ∧ g < w.heap.size ∧ w.cell? ⟨g, i, none⟩ = some (iV b) := by
  obtain ⟨n, hn, hlt, hv⟩ := geti_has hb
  obtain rfl : i = n := by omega
  have hc := (mc6 h.cd.blk).2.2.2.2.1
  obtain ⟨g, cap, he, hc2, hg⟩ := rowInt h.cd.m hlt
  rw [he] at hc
  rw [hv] at hc2
  exact ⟨g, cap, hc, by omega, hg, hc2⟩

set_option maxHeartbeats 3200000 in
set_option maxRecDepth 100000 in
theorem look_1 (h : Mc K M w m D) (he : expAt K.c.t m.ex = some ⟨1, nu, bi, e1, e2, e3, fs, am⟩) (hx : kNum f m nu = some m') :
    Calls Tryz.prog 91 #[pT M] w fun e w' => e = .returned (.tuple #[]) ∧ Mn K M w D w' m' := by
  obtain ⟨eg, ecap, j, fa, aa, fc, ac, hex, ⟨hj1, hj2, hj3, hj4, hj5⟩, ⟨x0, x1, x2, x3, x4, x5, x6, x7⟩, -, -⟩ := h.ex he
  obtain ⟨osg, hosg⟩ := ptr_of h.sg (.inl rfl)
  have HSG : Hid (Lies w m.sg 1 [.pointer osg]) := by show Lies _ _ _ _; rw [← hosg]; exact h.sg
  have HX : Hid (kNum f m nu = some m') := hx
  clear hx
  have hF0 : Fr (fun _ => False) w (w.alloc (.cells #[iV 1, iV nu, iV bi, iV e1, iV e2, iV e3, .slice fa fs.length fc, .slice aa am.length ac] 162)) := (Fr.refl _ w).alloc _
  have HF0 : Hid (Fr (fun _ => False) w (w.alloc (.cells #[iV 1, iV nu, iV bi, iV e1, iV e2, iV e3, .slice fa fs.length fc, .slice aa am.length ac] 162))) := hF0
  have HK0 : Hid (Kp w (w.alloc (.cells #[iV 1, iV nu, iV bi, iV e1, iV e2, iV e3, .slice fa fs.length fc, .slice aa am.length ac] 162))) := hF0.kp fun _ _ _ h => h.elim
  clear hF0 he
  obtain ⟨k, n, p, pr, bd, q, r, hV, hb⟩ := h.cells
  obtain ⟨⟨c0, c1, c2, c3, c4, c5, c6, c7, c8, c9, c10, c11, c12, c13, c14, c15, c16⟩, hf⟩ := mc17 hb
  have f1 := hf 1; have f2 := hf 2; have f3 := hf 3; have f4 := hf 4; have f5 := hf 5; have f6 := hf 6; have f7 := hf 7; have f8 := hf 8; have f9 := hf 9; have f10 := hf 10; have f11 := hf 11; have f12 := hf 12; have f13 := hf 13; have f14 := hf 14; have f15 := hf 15; have f16 := hf 16
  have hl := blk_lt hb
  have H : Hid (Mc K M w m D) := h
  have HB : Hid (w.heap[M]? = some (.cells #[pT K.cb, D.iv, .bool m.lk, iV m.ex, D.sp, iV k, iV n, p, iV pr, iV bd, q, r, D.wp, iV m.st, .string (bz m.tx), D.pv, iV m.jm] 198 (0, 0))) := hb
  have HV : Hid (D.V = vCells k n p pr bd q r) := hV
  clear h hb hf hV
  rw [hex] at c3
  rw [hosg] at c4
  have HEX : Hid (m.ex = (j : Int)) := hex
  clear hex hosg
  go_enter Tryz.func91, Tryz.ntmps91
  go_wp2_with fail
  refine (number_c (H.out.fr HF0.out) HX.out).mono ?_
  rintro r1 w1 ⟨rfl, hN⟩
  have HN : Hid (Mn K M w D w1 m') := hN.pre HF0.out
  clear hN
  go_wp2_with fail
  (first | go_end0 | ((try simp only [Exit.inBlock, Exit.then]); refine bodyPost_ret (results_none rfl _ _ _) rfl ?_))
  exact ⟨rfl, HN.out⟩

set_option maxHeartbeats 3200000 in
set_option maxRecDepth 100000 in
theorem look_2 (h : Mc K M w m D) (he : expAt K.c.t m.ex = some ⟨2, nu, bi, e1, e2, e3, fs, am⟩) (hx : kTruth f m true = some m') :
    Calls Tryz.prog 91 #[pT M] w fun e w' => e = .returned (.tuple #[]) ∧ Mn K M w D w' m' := by
  obtain ⟨eg, ecap, j, fa, aa, fc, ac, hex, ⟨hj1, hj2, hj3, hj4, hj5⟩, ⟨x0, x1, x2, x3, x4, x5, x6, x7⟩, -, -⟩ := h.ex he
  obtain ⟨osg, hosg⟩ := ptr_of h.sg (.inl rfl)
  have HSG : Hid (Lies w m.sg 1 [.pointer osg]) := by show Lies _ _ _ _; rw [← hosg]; exact h.sg
  have HX : Hid (kTruth f m true = some m') := hx
  clear hx
  have hF0 : Fr (fun _ => False) w (w.alloc (.cells #[iV 2, iV nu, iV bi, iV e1, iV e2, iV e3, .slice fa fs.length fc, .slice aa am.length ac] 162)) := (Fr.refl _ w).alloc _
  have HF0 : Hid (Fr (fun _ => False) w (w.alloc (.cells #[iV 2, iV nu, iV bi, iV e1, iV e2, iV e3, .slice fa fs.length fc, .slice aa am.length ac] 162))) := hF0
  have HK0 : Hid (Kp w (w.alloc (.cells #[iV 2, iV nu, iV bi, iV e1, iV e2, iV e3, .slice fa fs.length fc, .slice aa am.length ac] 162))) := hF0.kp fun _ _ _ h => h.elim
  clear hF0 he
  obtain ⟨k, n, p, pr, bd, q, r, hV, hb⟩ := h.cells
  obtain ⟨⟨c0, c1, c2, c3, c4, c5, c6, c7, c8, c9, c10, c11, c12, c13, c14, c15, c16⟩, hf⟩ := mc17 hb
  have f1 := hf 1; have f2 := hf 2; have f3 := hf 3; have f4 := hf 4; have f5 := hf 5; have f6 := hf 6; have f7 := hf 7; have f8 := hf 8; have f9 := hf 9; have f10 := hf 10; have f11 := hf 11; have f12 := hf 12; have f13 := hf 13; have f14 := hf 14; have f15 := hf 15; have f16 := hf 16
  have hl := blk_lt hb
  have H : Hid (Mc K M w m D) := h
  have HB : Hid (w.heap[M]? = some (.cells #[pT K.cb, D.iv, .bool m.lk, iV m.ex, D.sp, iV k, iV n, p, iV pr, iV bd, q, r, D.wp, iV m.st, .string (bz m.tx), D.pv, iV m.jm] 198 (0, 0))) := hb
  have HV : Hid (D.V = vCells k n p pr bd q r) := hV
  clear h hb hf hV
  rw [hex] at c3
  rw [hosg] at c4
  have HEX : Hid (m.ex = (j : Int)) := hex
  clear hex hosg
  go_enter Tryz.func91, Tryz.ntmps91
  go_wp2_with fail
  refine (truth_c (H.out.fr HF0.out) HX.out).mono ?_
  rintro r1 w1 ⟨rfl, hN⟩
  have HN : Hid (Mn K M w D w1 m') := hN.pre HF0.out
  clear hN
  go_wp2_with fail
  (first | go_end0 | ((try simp only [Exit.inBlock, Exit.then]); refine bodyPost_ret (results_none rfl _ _ _) rfl ?_))
  exact ⟨rfl, HN.out⟩

set_option maxHeartbeats 3200000 in
set_option maxRecDepth 100000 in
theorem look_3 (h : Mc K M w m D) (he : expAt K.c.t m.ex = some ⟨3, nu, bi, e1, e2, e3, fs, am⟩) (hx : kTruth f m false = some m') :
    Calls Tryz.prog 91 #[pT M] w fun e w' => e = .returned (.tuple #[]) ∧ Mn K M w D w' m' := by
  obtain ⟨eg, ecap, j, fa, aa, fc, ac, hex, ⟨hj1, hj2, hj3, hj4, hj5⟩, ⟨x0, x1, x2, x3, x4, x5, x6, x7⟩, -, -⟩ := h.ex he
  obtain ⟨osg, hosg⟩ := ptr_of h.sg (.inl rfl)
  have HSG : Hid (Lies w m.sg 1 [.pointer osg]) := by show Lies _ _ _ _; rw [← hosg]; exact h.sg
  have HX : Hid (kTruth f m false = some m') := hx
  clear hx
  have hF0 : Fr (fun _ => False) w (w.alloc (.cells #[iV 3, iV nu, iV bi, iV e1, iV e2, iV e3, .slice fa fs.length fc, .slice aa am.length ac] 162)) := (Fr.refl _ w).alloc _
  have HF0 : Hid (Fr (fun _ => False) w (w.alloc (.cells #[iV 3, iV nu, iV bi, iV e1, iV e2, iV e3, .slice fa fs.length fc, .slice aa am.length ac] 162))) := hF0
  have HK0 : Hid (Kp w (w.alloc (.cells #[iV 3, iV nu, iV bi, iV e1, iV e2, iV e3, .slice fa fs.length fc, .slice aa am.length ac] 162))) := hF0.kp fun _ _ _ h => h.elim
  clear hF0 he
  obtain ⟨k, n, p, pr, bd, q, r, hV, hb⟩ := h.cells
  obtain ⟨⟨c0, c1, c2, c3, c4, c5, c6, c7, c8, c9, c10, c11, c12, c13, c14, c15, c16⟩, hf⟩ := mc17 hb
  have f1 := hf 1; have f2 := hf 2; have f3 := hf 3; have f4 := hf 4; have f5 := hf 5; have f6 := hf 6; have f7 := hf 7; have f8 := hf 8; have f9 := hf 9; have f10 := hf 10; have f11 := hf 11; have f12 := hf 12; have f13 := hf 13; have f14 := hf 14; have f15 := hf 15; have f16 := hf 16
  have hl := blk_lt hb
  have H : Hid (Mc K M w m D) := h
  have HB : Hid (w.heap[M]? = some (.cells #[pT K.cb, D.iv, .bool m.lk, iV m.ex, D.sp, iV k, iV n, p, iV pr, iV bd, q, r, D.wp, iV m.st, .string (bz m.tx), D.pv, iV m.jm] 198 (0, 0))) := hb
  have HV : Hid (D.V = vCells k n p pr bd q r) := hV
  clear h hb hf hV
  rw [hex] at c3
  rw [hosg] at c4
  have HEX : Hid (m.ex = (j : Int)) := hex
  clear hex hosg
  go_enter Tryz.func91, Tryz.ntmps91
  go_wp2_with fail
  refine (truth_c (H.out.fr HF0.out) HX.out).mono ?_
  rintro r1 w1 ⟨rfl, hN⟩
  have HN : Hid (Mn K M w D w1 m') := hN.pre HF0.out
  clear hN
  go_wp2_with fail
  (first | go_end0 | ((try simp only [Exit.inBlock, Exit.then]); refine bodyPost_ret (results_none rfl _ _ _) rfl ?_))
  exact ⟨rfl, HN.out⟩

set_option maxHeartbeats 3200000 in
set_option maxRecDepth 100000 in
theorem look_5 (h : Mc K M w m D) (he : expAt K.c.t m.ex = some ⟨5, nu, bi, e1, e2, e3, fs, am⟩) (hx : kGo f m (vLst .skip) = some m') :
    Calls Tryz.prog 91 #[pT M] w fun e w' => e = .returned (.tuple #[]) ∧ Mn K M w D w' m' := by
  obtain ⟨eg, ecap, j, fa, aa, fc, ac, hex, ⟨hj1, hj2, hj3, hj4, hj5⟩, ⟨x0, x1, x2, x3, x4, x5, x6, x7⟩, -, -⟩ := h.ex he
  obtain ⟨osg, hosg⟩ := ptr_of h.sg (.inl rfl)
  have HSG : Hid (Lies w m.sg 1 [.pointer osg]) := by show Lies _ _ _ _; rw [← hosg]; exact h.sg
  have HX : Hid (kGo f m (vLst .skip) = some m') := hx
  clear hx
  have hF0 : Fr (fun _ => False) w (w.alloc (.cells #[iV 5, iV nu, iV bi, iV e1, iV e2, iV e3, .slice fa fs.length fc, .slice aa am.length ac] 162)) := (Fr.refl _ w).alloc _
  have HF0 : Hid (Fr (fun _ => False) w (w.alloc (.cells #[iV 5, iV nu, iV bi, iV e1, iV e2, iV e3, .slice fa fs.length fc, .slice aa am.length ac] 162))) := hF0
  have HK0 : Hid (Kp w (w.alloc (.cells #[iV 5, iV nu, iV bi, iV e1, iV e2, iV e3, .slice fa fs.length fc, .slice aa am.length ac] 162))) := hF0.kp fun _ _ _ h => h.elim
  clear hF0 he
  obtain ⟨k, n, p, pr, bd, q, r, hV, hb⟩ := h.cells
  obtain ⟨⟨c0, c1, c2, c3, c4, c5, c6, c7, c8, c9, c10, c11, c12, c13, c14, c15, c16⟩, hf⟩ := mc17 hb
  have f1 := hf 1; have f2 := hf 2; have f3 := hf 3; have f4 := hf 4; have f5 := hf 5; have f6 := hf 6; have f7 := hf 7; have f8 := hf 8; have f9 := hf 9; have f10 := hf 10; have f11 := hf 11; have f12 := hf 12; have f13 := hf 13; have f14 := hf 14; have f15 := hf 15; have f16 := hf 16
  have hl := blk_lt hb
  have H : Hid (Mc K M w m D) := h
  have HB : Hid (w.heap[M]? = some (.cells #[pT K.cb, D.iv, .bool m.lk, iV m.ex, D.sp, iV k, iV n, p, iV pr, iV bd, q, r, D.wp, iV m.st, .string (bz m.tx), D.pv, iV m.jm] 198 (0, 0))) := hb
  have HV : Hid (D.V = vCells k n p pr bd q r) := hV
  clear h hb hf hV
  rw [hex] at c3
  rw [hosg] at c4
  have HEX : Hid (m.ex = (j : Int)) := hex
  clear hex hosg
  go_enter Tryz.func91, Tryz.ntmps91
  go_wp2_with fail
  refine (goOn_c (H.out.fr HF0.out) (V := vCells 3 0 pN 0 0 pN pN) (val_in nil3 nil1 nil2) HX.out).mono ?_
  rintro r1 w1 ⟨rfl, hN⟩
  have HN : Hid (Mn K M w D w1 m') := hN.pre HF0.out
  clear hN
  go_wp2_with fail
  (first | go_end0 | ((try simp only [Exit.inBlock, Exit.then]); refine bodyPost_ret (results_none rfl _ _ _) rfl ?_))
  exact ⟨rfl, HN.out⟩

set_option maxHeartbeats 3200000 in
set_option maxRecDepth 100000 in
theorem look_4 (h : Mc K M w m D) {b : Int} {rs : Option Code} (he : expAt K.c.t m.ex = some ⟨4, nu, bi, e1, e2, e3, fs, am⟩) (hm : geti K.c.ms m.ex = some b) (hr : kName K.c.t b m.sg = some rs) (hx : kThen f m rs = some m') :
    Calls Tryz.prog 91 #[pT M] w fun e w' => e = .returned (.tuple #[]) ∧ Mn K M w D w' m' := by
  obtain ⟨eg, ecap, j, fa, aa, fc, ac, hex, ⟨hj1, hj2, hj3, hj4, hj5⟩, ⟨x0, x1, x2, x3, x4, x5, x6, x7⟩, -, -⟩ := h.ex he
  obtain ⟨osg, hosg⟩ := ptr_of h.sg (.inl rfl)
  have HSG : Hid (Lies w m.sg 1 [.pointer osg]) := by show Lies _ _ _ _; rw [← hosg]; exact h.sg
  have HX : Hid (kThen f m rs = some m') := hx
  have HR : Hid (kName K.c.t b m.sg = some rs) := hr
  rw [hex] at hm
  obtain ⟨mg, mcap, y0, y1, y2, y3⟩ := h.means hm
  clear hx hr hm
  have hF0 : Fr (fun _ => False) w (w.alloc (.cells #[iV 4, iV nu, iV bi, iV e1, iV e2, iV e3, .slice fa fs.length fc, .slice aa am.length ac] 162)) := (Fr.refl _ w).alloc _
  have HF0 : Hid (Fr (fun _ => False) w (w.alloc (.cells #[iV 4, iV nu, iV bi, iV e1, iV e2, iV e3, .slice fa fs.length fc, .slice aa am.length ac] 162))) := hF0
  have HK0 : Hid (Kp w (w.alloc (.cells #[iV 4, iV nu, iV bi, iV e1, iV e2, iV e3, .slice fa fs.length fc, .slice aa am.length ac] 162))) := hF0.kp fun _ _ _ h => h.elim
  clear hF0 he
  obtain ⟨k, n, p, pr, bd, q, r, hV, hb⟩ := h.cells
  obtain ⟨⟨c0, c1, c2, c3, c4, c5, c6, c7, c8, c9, c10, c11, c12, c13, c14, c15, c16⟩, hf⟩ := mc17 hb
  have f1 := hf 1; have f2 := hf 2; have f3 := hf 3; have f4 := hf 4; have f5 := hf 5; have f6 := hf 6; have f7 := hf 7; have f8 := hf 8; have f9 := hf 9; have f10 := hf 10; have f11 := hf 11; have f12 := hf 12; have f13 := hf 13; have f14 := hf 14; have f15 := hf 15; have f16 := hf 16
  have hl := blk_lt hb
  have H : Hid (Mc K M w m D) := h
  have HB : Hid (w.heap[M]? = some (.cells #[pT K.cb, D.iv, .bool m.lk, iV m.ex, D.sp, iV k, iV n, p, iV pr, iV bd, q, r, D.wp, iV m.st, .string (bz m.tx), D.pv, iV m.jm] 198 (0, 0))) := hb
  have HV : Hid (D.V = vCells k n p pr bd q r) := hV
  clear h hb hf hV
  rw [hex] at c3
  rw [hosg] at c4
  have HEX : Hid (m.ex = (j : Int)) := hex
  clear hex hosg
  go_enter Tryz.func91, Tryz.ntmps91
  go_wp2_with fail
  refine (name_c (H.out.fr HF0.out) (HSG.out.keep HK0.out) HR.out HX.out).mono ?_
  rintro r1 w1 ⟨rfl, hN⟩
  have HN : Hid (Mn K M w D w1 m') := hN.pre HF0.out
  clear hN
  go_wp2_with fail
  (first | go_end0 | ((try simp only [Exit.inBlock, Exit.then]); refine bodyPost_ret (results_none rfl _ _ _) rfl ?_))
  exact ⟨rfl, HN.out⟩

set_option maxHeartbeats 3200000 in
set_option maxRecDepth 100000 in
theorem look_9 (h : Mc K M w m D) (he : expAt K.c.t m.ex = some ⟨9, nu, bi, e1, e2, e3, fs, am⟩) (hx : (match m.inp with
    | [] => some (kEnd m 3 [])
    | n :: l => kNum f { m with inp := l } n) = some m') :
    Calls Tryz.prog 91 #[pT M] w fun e w' => e = .returned (.tuple #[]) ∧ Mn K M w D w' m' := by
  obtain ⟨eg, ecap, j, fa, aa, fc, ac, hex, ⟨hj1, hj2, hj3, hj4, hj5⟩, ⟨x0, x1, x2, x3, x4, x5, x6, x7⟩, -, -⟩ := h.ex he
  obtain ⟨osg, hosg⟩ := ptr_of h.sg (.inl rfl)
  have HSG : Hid (Lies w m.sg 1 [.pointer osg]) := by show Lies _ _ _ _; rw [← hosg]; exact h.sg
  have HX : Hid ((match m.inp with
    | [] => some (kEnd m 3 [])
    | n :: l => kNum f { m with inp := l } n) = some m') := hx
  clear hx
  have hF0 : Fr (fun _ => False) w (w.alloc (.cells #[iV 9, iV nu, iV bi, iV e1, iV e2, iV e3, .slice fa fs.length fc, .slice aa am.length ac] 162)) := (Fr.refl _ w).alloc _
  have HF0 : Hid (Fr (fun _ => False) w (w.alloc (.cells #[iV 9, iV nu, iV bi, iV e1, iV e2, iV e3, .slice fa fs.length fc, .slice aa am.length ac] 162))) := hF0
  have HK0 : Hid (Kp w (w.alloc (.cells #[iV 9, iV nu, iV bi, iV e1, iV e2, iV e3, .slice fa fs.length fc, .slice aa am.length ac] 162))) := hF0.kp fun _ _ _ h => h.elim
  clear hF0 he
  obtain ⟨k, n, p, pr, bd, q, r, hV, hb⟩ := h.cells
  obtain ⟨⟨c0, c1, c2, c3, c4, c5, c6, c7, c8, c9, c10, c11, c12, c13, c14, c15, c16⟩, hf⟩ := mc17 hb
  have f1 := hf 1; have f2 := hf 2; have f3 := hf 3; have f4 := hf 4; have f5 := hf 5; have f6 := hf 6; have f7 := hf 7; have f8 := hf 8; have f9 := hf 9; have f10 := hf 10; have f11 := hf 11; have f12 := hf 12; have f13 := hf 13; have f14 := hf 14; have f15 := hf 15; have f16 := hf 16
  have hl := blk_lt hb
  have H : Hid (Mc K M w m D) := h
  have HB : Hid (w.heap[M]? = some (.cells #[pT K.cb, D.iv, .bool m.lk, iV m.ex, D.sp, iV k, iV n, p, iV pr, iV bd, q, r, D.wp, iV m.st, .string (bz m.tx), D.pv, iV m.jm] 198 (0, 0))) := hb
  have HV : Hid (D.V = vCells k n p pr bd q r) := hV
  clear h hb hf hV
  rw [hex] at c3
  rw [hosg] at c4
  have HEX : Hid (m.ex = (j : Int)) := hex
  clear hex hosg
  go_enter Tryz.func91, Tryz.ntmps91
  go_wp2_with fail
  refine (read_c (H.out.fr HF0.out) HX.out).mono ?_
  rintro r1 w1 ⟨rfl, hN⟩
  have HN : Hid (Mn K M w D w1 m') := hN.pre HF0.out
  clear hN
  go_wp2_with fail
  (first | go_end0 | ((try simp only [Exit.inBlock, Exit.then]); refine bodyPost_ret (results_none rfl _ _ _) rfl ?_))
  exact ⟨rfl, HN.out⟩

set_option maxHeartbeats 3200000 in
set_option maxRecDepth 100000 in
theorem look_12 (h : Mc K M w m D) {u : List Bool} {c : Code} (he : expAt K.c.t m.ex = some ⟨12, nu, bi, e1, e2, e3, fs, am⟩) (hu : K.c.kp[m.ex.toNat]? = some u) (hc : kKeep K.c.t u m.sg .skip = some c) (hx : kGo f m (vFun bi e1 c) = some m') :
    Calls Tryz.prog 91 #[pT M] w fun e w' => e = .returned (.tuple #[]) ∧ Mn K M w D w' m' := by
  obtain ⟨eg, ecap, j, fa, aa, fc, ac, hex, ⟨hj1, hj2, hj3, hj4, hj5⟩, ⟨x0, x1, x2, x3, x4, x5, x6, x7⟩, -, -⟩ := h.ex he
  obtain ⟨osg, hosg⟩ := ptr_of h.sg (.inl rfl)
  have HSG : Hid (Lies w m.sg 1 [.pointer osg]) := by show Lies _ _ _ _; rw [← hosg]; exact h.sg
  have HX : Hid (kGo f m (vFun bi e1 c) = some m') := hx
  have HKK : Hid (kKeep K.c.t u m.sg .skip = some c) := hc
  rw [hex] at hu
  simp only [Int.toNat_natCast] at hu
  obtain ⟨kg, kcap, va, vn, vc, y0, y1, y2, y3, hk1⟩ := h.kept hu
  have HK1 : Hid (K1At w 0 u (.slice va vn vc)) := hk1
  clear hx hc hu hk1
  have hF0 : Fr (fun _ => False) w (w.alloc (.cells #[iV 12, iV nu, iV bi, iV e1, iV e2, iV e3, .slice fa fs.length fc, .slice aa am.length ac] 162)) := (Fr.refl _ w).alloc _
  have HF0 : Hid (Fr (fun _ => False) w (w.alloc (.cells #[iV 12, iV nu, iV bi, iV e1, iV e2, iV e3, .slice fa fs.length fc, .slice aa am.length ac] 162))) := hF0
  have HK0 : Hid (Kp w (w.alloc (.cells #[iV 12, iV nu, iV bi, iV e1, iV e2, iV e3, .slice fa fs.length fc, .slice aa am.length ac] 162))) := hF0.kp fun _ _ _ h => h.elim
  clear hF0 he
  obtain ⟨k, n, p, pr, bd, q, r, hV, hb⟩ := h.cells
  obtain ⟨⟨c0, c1, c2, c3, c4, c5, c6, c7, c8, c9, c10, c11, c12, c13, c14, c15, c16⟩, hf⟩ := mc17 hb
  have f1 := hf 1; have f2 := hf 2; have f3 := hf 3; have f4 := hf 4; have f5 := hf 5; have f6 := hf 6; have f7 := hf 7; have f8 := hf 8; have f9 := hf 9; have f10 := hf 10; have f11 := hf 11; have f12 := hf 12; have f13 := hf 13; have f14 := hf 14; have f15 := hf 15; have f16 := hf 16
  have hl := blk_lt hb
  have H : Hid (Mc K M w m D) := h
  have HB : Hid (w.heap[M]? = some (.cells #[pT K.cb, D.iv, .bool m.lk, iV m.ex, D.sp, iV k, iV n, p, iV pr, iV bd, q, r, D.wp, iV m.st, .string (bz m.tx), D.pv, iV m.jm] 198 (0, 0))) := hb
  have HV : Hid (D.V = vCells k n p pr bd q r) := hV
  clear h hb hf hV
  rw [hex] at c3
  rw [hosg] at c4
  have HEX : Hid (m.ex = (j : Int)) := hex
  clear hex hosg
  go_enter Tryz.func91, Tryz.ntmps91
  go_wp2_with fail
  refine (kept_c (H.out.fr HF0.out) (HK1.out.fr HF0.out) (HSG.out.keep HK0.out) HKK.out).mono ?_
  rintro r1 w1 ⟨hF1, p1, rfl, hL1⟩
  have HF1 : Hid (Fr (fun _ => False) w w1) := HF0.out.trans hF1 (fun _ h => h.elim)
  have HL1 : Hid (Lies w1 c 1 [.pointer p1]) := hL1
  have hB1 := (hF1.block w.heap.size (by simp) id).trans (blk_new w (.cells #[iV 12, iV nu, iV bi, iV e1, iV e2, iV e3, .slice fa fs.length fc, .slice aa am.length ac] 162))
  obtain ⟨t0, t1, t2, t3, t4, t5, t6, t7⟩ := cells8 hB1
  have tl := blk_lt hB1
  clear hF1 hL1 hB1
  go_wp2_with fail
  refine (goOn_c (H.out.fr HF1.out) (V := vCells 5 0 pN bi e1 (.pointer p1) pN) (val_in nil3 HL1.out nil2) HX.out).mono ?_
  rintro r2 w2 ⟨rfl, hN⟩
  have HN : Hid (Mn K M w D w2 m') := hN.pre HF1.out
  clear hN
  go_wp2_with fail
  (first | go_end0 | ((try simp only [Exit.inBlock, Exit.then]); refine bodyPost_ret (results_none rfl _ _ _) rfl ?_))
  exact ⟨rfl, HN.out⟩

set_option maxHeartbeats 3200000 in
set_option maxRecDepth 100000 in
theorem look_11 (h : Mc K M w m D) {u : List Bool} {c : Code} (he : expAt K.c.t m.ex = some ⟨11, nu, bi, e1, e2, e3, fs, am⟩) (hu : K.c.kp[m.ex.toNat]? = some u) (hc : kKeep K.c.t u m.sg .skip = some c) (hx : kLook m e1 (sMk (-1) m.ex v0 (sMk (-1) m.ex v0 .skip c) m.sg) = m') :
    Calls Tryz.prog 91 #[pT M] w fun e w' => e = .returned (.tuple #[]) ∧ Mn K M w D w' m' := by
  obtain ⟨eg, ecap, j, fa, aa, fc, ac, hex, ⟨hj1, hj2, hj3, hj4, hj5⟩, ⟨x0, x1, x2, x3, x4, x5, x6, x7⟩, -, -⟩ := h.ex he
  obtain ⟨osg, hosg⟩ := ptr_of h.sg (.inl rfl)
  have HSG : Hid (Lies w m.sg 1 [.pointer osg]) := by show Lies _ _ _ _; rw [← hosg]; exact h.sg
  have HX : Hid (kLook m e1 (sMk (-1) m.ex v0 (sMk (-1) m.ex v0 .skip c) m.sg) = m') := hx
  have HKK : Hid (kKeep K.c.t u m.sg .skip = some c) := hc
  rw [hex] at hu
  simp only [Int.toNat_natCast] at hu
  obtain ⟨kg, kcap, va, vn, vc, y0, y1, y2, y3, hk1⟩ := h.kept hu
  have HK1 : Hid (K1At w 0 u (.slice va vn vc)) := hk1
  clear hx hc hu hk1
  have hF0 : Fr (fun _ => False) w (w.alloc (.cells #[iV 11, iV nu, iV bi, iV e1, iV e2, iV e3, .slice fa fs.length fc, .slice aa am.length ac] 162)) := (Fr.refl _ w).alloc _
  have HF0 : Hid (Fr (fun _ => False) w (w.alloc (.cells #[iV 11, iV nu, iV bi, iV e1, iV e2, iV e3, .slice fa fs.length fc, .slice aa am.length ac] 162))) := hF0
  have HK0 : Hid (Kp w (w.alloc (.cells #[iV 11, iV nu, iV bi, iV e1, iV e2, iV e3, .slice fa fs.length fc, .slice aa am.length ac] 162))) := hF0.kp fun _ _ _ h => h.elim
  clear hF0 he
  obtain ⟨k, n, p, pr, bd, q, r, hV, hb⟩ := h.cells
  obtain ⟨⟨c0, c1, c2, c3, c4, c5, c6, c7, c8, c9, c10, c11, c12, c13, c14, c15, c16⟩, hf⟩ := mc17 hb
  have f1 := hf 1; have f2 := hf 2; have f3 := hf 3; have f4 := hf 4; have f5 := hf 5; have f6 := hf 6; have f7 := hf 7; have f8 := hf 8; have f9 := hf 9; have f10 := hf 10; have f11 := hf 11; have f12 := hf 12; have f13 := hf 13; have f14 := hf 14; have f15 := hf 15; have f16 := hf 16
  have hl := blk_lt hb
  have H : Hid (Mc K M w m D) := h
  have HB : Hid (w.heap[M]? = some (.cells #[pT K.cb, D.iv, .bool m.lk, iV m.ex, D.sp, iV k, iV n, p, iV pr, iV bd, q, r, D.wp, iV m.st, .string (bz m.tx), D.pv, iV m.jm] 198 (0, 0))) := hb
  have HV : Hid (D.V = vCells k n p pr bd q r) := hV
  clear h hb hf hV
  rw [hex] at c3
  rw [hosg] at c4
  have HEX : Hid (m.ex = (j : Int)) := hex
  clear hex hosg
  go_enter Tryz.func91, Tryz.ntmps91
  go_wp2_with fail
  refine (kept_c (H.out.fr HF0.out) (HK1.out.fr HF0.out) (HSG.out.keep HK0.out) HKK.out).mono ?_
  rintro r1 w1 ⟨hF1, p1, rfl, hL1⟩
  have HF1 : Hid (Fr (fun _ => False) w w1) := HF0.out.trans hF1 (fun _ h => h.elim)
  have HL1 : Hid (Lies w1 c 1 [.pointer p1]) := hL1
  have hB1 := (hF1.block w.heap.size (by simp) id).trans (blk_new w (.cells #[iV 11, iV nu, iV bi, iV e1, iV e2, iV e3, .slice fa fs.length fc, .slice aa am.length ac] 162))
  obtain ⟨t0, t1, t2, t3, t4, t5, t6, t7⟩ := cells8 hB1
  have tl := blk_lt hB1
  clear hF1 hL1 hB1
  go_wp2_with fail
  have b1 := blk_new w1 (.cells #[iV (-1), iV 0, iV 0, pN, iV 0, iV 0, pN, pN, iV (j : Int), pN, .pointer p1] 247)
  have b2 := blk_new (w1.alloc (.cells #[iV (-1), iV 0, iV 0, pN, iV 0, iV 0, pN, pN, iV (j : Int), pN, .pointer p1] 247)) (.cells #[iV (-1), iV 0, iV 0, pN, iV 0, iV 0, pN, pN, iV (j : Int), pT w1.heap.size, .pointer osg] 247)
  rw [show (w1.alloc (.cells #[iV (-1), iV 0, iV 0, pN, iV 0, iV 0, pN, pN, iV (j : Int), pN, .pointer p1] 247)).heap.size = w1.heap.size + 1 by simp] at b2
  have b3 := (Below.heap_alloc (w1.alloc (.cells #[iV (-1), iV 0, iV 0, pN, iV 0, iV 0, pN, pN, iV (j : Int), pN, .pointer p1] 247)) (.cells #[iV (-1), iV 0, iV 0, pN, iV 0, iV 0, pN, pN, iV (j : Int), pT w1.heap.size, .pointer osg] 247) w1.heap.size (by simp)).trans b1
  clear b1
  generalize hW : (w1.alloc (.cells #[iV (-1), iV 0, iV 0, pN, iV 0, iV 0, pN, pN, iV (j : Int), pN, .pointer p1] 247)).alloc (.cells #[iV (-1), iV 0, iV 0, pN, iV 0, iV 0, pN, pN, iV (j : Int), pT w1.heap.size, .pointer osg] 247) = W at b2 b3 ⊢
  have hFW : Fr (fun _ => False) w1 W := by rw [← hW]; exact (by repeat (first | with_reducible exact Fr.refl _ _ | (with_reducible refine Fr.drew ?_) | (with_reducible refine Fr.drewN ?_ _) | (with_reducible refine Fr.alloc ?_ _) | ((with_reducible refine Fr.setCell ?_ ?_ _); rotate_left; first | exact .inl rfl | exact .inr (Nat.le_refl _) | exact .inl (Nat.le_refl _) | (focus (left; simp; done)) | (focus (left; simp; omega)) | (focus (left; omega)) | (focus (right; simp; done)) | (focus (right; simp; omega)) | (focus (right; omega))) | exact Fr.refl _ _))
  have HFW : Hid (Fr (fun _ => False) w W) := HF1.out.trans hFW (fun _ h => h.elim)
  have hkW : Kp w1 W := hFW.kp fun _ _ _ h => h.elim
  have hS : Lies W (sMk (-1) j v0 (sMk (-1) j v0 .skip c) m.sg) 1 [pT (w1.heap.size + 1)] := sg_in (V := vCells 0 0 pN 0 0 pN pN) b2 v0_lies (sg_in (V := vCells 0 0 pN 0 0 pN pN) b3 v0_lies nil1 (HL1.out.keep hkW)) (HSG.out.keep (HFW.out.kp fun _ _ _ h => h.elim))
  clear b2 b3 hW hFW hkW
  refine (lookAt_c (H.out.fr HFW.out) hS).mono ?_
  rintro r2 w2 ⟨rfl, hN⟩
  have HN : Hid (Mn K M w D w2 m') := by
    show Mn _ _ _ _ _ _
    rw [← HX.out, HEX.out]
    exact hN.pre HFW.out
  clear hN hS
  go_wp2_with fail
  (first | go_end0 | ((try simp only [Exit.inBlock, Exit.then]); refine bodyPost_ret (results_none rfl _ _ _) rfl ?_))
  exact ⟨rfl, HN.out⟩

set_option maxHeartbeats 3200000 in
set_option maxRecDepth 100000 in
theorem look_d (h : Mc K M w m D) {kk : Int} (he : expAt K.c.t m.ex = some ⟨kk, nu, bi, e1, e2, e3, fs, am⟩)  (n1 : ¬ kk = 1) (n2 : ¬ kk = 2) (n3 : ¬ kk = 3) (n4 : ¬ kk = 4) (n5 : ¬ kk = 5) (n9 : ¬ kk = 9) (n11 : ¬ kk = 11) (n12 : ¬ kk = 12) (hx : kLook { m with wt := wMk m.ex false v0 m.sg m.wt } e1 m.sg = m') :
    Calls Tryz.prog 91 #[pT M] w fun e w' => e = .returned (.tuple #[]) ∧ Mn K M w D w' m' := by
  obtain ⟨eg, ecap, j, fa, aa, fc, ac, hex, ⟨hj1, hj2, hj3, hj4, hj5⟩, ⟨x0, x1, x2, x3, x4, x5, x6, x7⟩, -, -⟩ := h.ex he
  obtain ⟨osg, hosg⟩ := ptr_of h.sg (.inl rfl)
  have HSG : Hid (Lies w m.sg 1 [.pointer osg]) := by show Lies _ _ _ _; rw [← hosg]; exact h.sg
  have HX : Hid (kLook { m with wt := wMk m.ex false v0 m.sg m.wt } e1 m.sg = m') := hx
  obtain ⟨owt, howt⟩ := ptr_of h.wt (.inr (.inl rfl))
  have HWT : Hid (Lies w m.wt 2 [.pointer owt]) := by show Lies _ _ _ _; rw [← howt]; exact h.wt
  have HOW : Hid (D.wp = .pointer owt) := howt
  clear hx howt
  have hF0 : Fr (fun _ => False) w (w.alloc (.cells #[iV kk, iV nu, iV bi, iV e1, iV e2, iV e3, .slice fa fs.length fc, .slice aa am.length ac] 162)) := (Fr.refl _ w).alloc _
  have HF0 : Hid (Fr (fun _ => False) w (w.alloc (.cells #[iV kk, iV nu, iV bi, iV e1, iV e2, iV e3, .slice fa fs.length fc, .slice aa am.length ac] 162))) := hF0
  have HK0 : Hid (Kp w (w.alloc (.cells #[iV kk, iV nu, iV bi, iV e1, iV e2, iV e3, .slice fa fs.length fc, .slice aa am.length ac] 162))) := hF0.kp fun _ _ _ h => h.elim
  clear hF0 he
  obtain ⟨k, n, p, pr, bd, q, r, hV, hb⟩ := h.cells
  obtain ⟨⟨c0, c1, c2, c3, c4, c5, c6, c7, c8, c9, c10, c11, c12, c13, c14, c15, c16⟩, hf⟩ := mc17 hb
  have f1 := hf 1; have f2 := hf 2; have f3 := hf 3; have f4 := hf 4; have f5 := hf 5; have f6 := hf 6; have f7 := hf 7; have f8 := hf 8; have f9 := hf 9; have f10 := hf 10; have f11 := hf 11; have f12 := hf 12; have f13 := hf 13; have f14 := hf 14; have f15 := hf 15; have f16 := hf 16
  have hl := blk_lt hb
  have H : Hid (Mc K M w m D) := h
  have HB : Hid (w.heap[M]? = some (.cells #[pT K.cb, D.iv, .bool m.lk, iV m.ex, D.sp, iV k, iV n, p, iV pr, iV bd, q, r, D.wp, iV m.st, .string (bz m.tx), D.pv, iV m.jm] 198 (0, 0))) := hb
  have HV : Hid (D.V = vCells k n p pr bd q r) := hV
  clear h hb hf hV
  rw [hex] at c3
  rw [hosg] at c4
  rw [HOW.out] at c12
  have HEX : Hid (m.ex = (j : Int)) := hex
  clear hex hosg
  go_enter Tryz.func91, Tryz.ntmps91
  go_wp2_with fail
  have gB := blk_set (i := 12) (v := pT (w.heap.size + 1)) (c' := #[pT K.cb, D.iv, .bool m.lk, iV m.ex, D.sp, iV k, iV n, p, iV pr, iV bd, q, r, pT (w.heap.size + 1), iV m.st, .string (bz m.tx), D.pv, iV m.jm]) HB.out rfl
  have hF : Fr (fun b => b = M) w (w.setCell ⟨M, 12, none⟩ (pT (w.heap.size + 1))) := (by repeat (first | with_reducible exact Fr.refl _ _ | (with_reducible refine Fr.drew ?_) | (with_reducible refine Fr.drewN ?_ _) | (with_reducible refine Fr.alloc ?_ _) | ((with_reducible refine Fr.setCell ?_ ?_ _); rotate_left; first | exact .inl rfl | exact .inr (Nat.le_refl _) | exact .inl (Nat.le_refl _) | (focus (left; simp; done)) | (focus (left; simp; omega)) | (focus (left; omega)) | (focus (right; simp; done)) | (focus (right; simp; omega)) | (focus (right; omega))) | exact Fr.refl _ _))
  have hk := H.out.kpM hF
  clear hk
  have b1 := blk_new ((w.setCell ⟨M, 12, none⟩ (pT (w.heap.size + 1))).alloc (.cells #[iV kk, iV nu, iV bi, iV e1, iV e2, iV e3, .slice fa fs.length fc, .slice aa am.length ac] 162)) (.cells #[iV (j : Int), .pointer osg, .bool false, iV 0, iV 0, pN, iV 0, iV 0, pN, pN, .pointer owt] 250)
  rw [show ((w.setCell ⟨M, 12, none⟩ (pT (w.heap.size + 1))).alloc (.cells #[iV kk, iV nu, iV bi, iV e1, iV e2, iV e3, .slice fa fs.length fc, .slice aa am.length ac] 162)).heap.size = w.heap.size + 1 by simp] at b1
  have b2 := (Below.heap_alloc ((w.setCell ⟨M, 12, none⟩ (pT (w.heap.size + 1))).alloc (.cells #[iV kk, iV nu, iV bi, iV e1, iV e2, iV e3, .slice fa fs.length fc, .slice aa am.length ac] 162)) (.cells #[iV (j : Int), .pointer osg, .bool false, iV 0, iV 0, pN, iV 0, iV 0, pN, pN, .pointer owt] 250) M (by simp; omega)).trans ((Below.heap_alloc (w.setCell ⟨M, 12, none⟩ (pT (w.heap.size + 1))) (.cells #[iV kk, iV nu, iV bi, iV e1, iV e2, iV e3, .slice fa fs.length fc, .slice aa am.length ac] 162) M (by simp; omega)).trans gB)
  have hFW : Fr (fun b => b = M) w (((w.setCell ⟨M, 12, none⟩ (pT (w.heap.size + 1))).alloc (.cells #[iV kk, iV nu, iV bi, iV e1, iV e2, iV e3, .slice fa fs.length fc, .slice aa am.length ac] 162)).alloc (.cells #[iV (j : Int), .pointer osg, .bool false, iV 0, iV 0, pN, iV 0, iV 0, pN, pN, .pointer owt] 250)) := (by repeat (first | with_reducible exact Fr.refl _ _ | (with_reducible refine Fr.drew ?_) | (with_reducible refine Fr.drewN ?_ _) | (with_reducible refine Fr.alloc ?_ _) | ((with_reducible refine Fr.setCell ?_ ?_ _); rotate_left; first | exact .inl rfl | exact .inr (Nat.le_refl _) | exact .inl (Nat.le_refl _) | (focus (left; simp; done)) | (focus (left; simp; omega)) | (focus (left; omega)) | (focus (right; simp; done)) | (focus (right; simp; omega)) | (focus (right; omega))) | exact Fr.refl _ _))
  generalize ((w.setCell ⟨M, 12, none⟩ (pT (w.heap.size + 1))).alloc (.cells #[iV kk, iV nu, iV bi, iV e1, iV e2, iV e3, .slice fa fs.length fc, .slice aa am.length ac] 162)).alloc (.cells #[iV (j : Int), .pointer osg, .bool false, iV 0, iV 0, pN, iV 0, iV 0, pN, pN, .pointer owt] 250) = W at b1 b2 hFW ⊢
  have hk := H.out.kpM hFW
  have hWt : Lies W (wMk j false v0 m.sg m.wt) 2 [pT (w.heap.size + 1)] := wt_in (V := vCells 0 0 pN 0 0 pN pN) b1 v0_lies (HSG.out.keep hk) (HWT.out.keep hk)
  have hM : Mc K M W { m with wt := wMk j false v0 m.sg m.wt } { D with wp := pT (w.heap.size + 1) } := H.out.upd hFW (by unfold mCells; simp only [HV.out]; exact b2) rfl rfl H.out.inp H.out.ip (H.out.sg.keep hk) (H.out.val.keep hk) hWt
  have HFW : Hid (Fr (fun b => b = M) w W) := hFW
  have hS : Lies W m.sg 1 [.pointer osg] := HSG.out.keep hk
  clear b1 b2 gB hF hFW hk hWt
  refine (lookAt_c hM hS).mono ?_
  rintro r2 w2 ⟨rfl, hN⟩
  have HN : Hid (Mn K M w D w2 m') := by
    show Mn _ _ _ _ _ _
    rw [← HX.out, HEX.out]
    exact hN.step HFW.out rfl
  clear hN hS hM
  go_wp2_with fail
  (first | go_end0 | ((try simp only [Exit.inBlock, Exit.then]); refine bodyPost_ret (results_none rfl _ _ _) rfl ?_))
  exact ⟨rfl, HN.out⟩
end
end Go.Proofs.YtklimomeendajaaGreatDoor
