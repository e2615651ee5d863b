import Derived.Test.YtklimomeendajaaGreatDoorMA6
set_option linter.unusedVariables false
set_option linter.unusedSimpArgs false
namespace Go.Proofs.YtklimomeendajaaGreatDoor
open Go.RowKit

set_option maxHeartbeats 3200000 in
set_option maxRecDepth 100000 in
theorem fe_one22 (t : RS) (R : Int → List Int → Option Ed) (ih : FIh t R) (n : Nat) (nu bi f1 f2 f3 : Int) (fs : List (Int × Int × Int)) (am : List (Int × Int)) (i : Int) (sg : List Int) (b : Ed) (he : expAt t i = some ⟨22, nu, bi, f1, f2, f3, fs, am⟩) (h : R f1 sg = some b) : FCt t i sg b := by
  intro q root E P B cE S M bad w hd
  obtain ⟨⟨c0, -, -, -, -, -⟩, -⟩ := hd.cells
  have hq := hd.lt
  have hne := hd.ne
  obtain ⟨g, cap, m, vf, va, rfl, rfl, hm, hg, hea, ⟨hmf, hma⟩, d0, d1, d2, d3, d4, d5, d6, d7⟩ := hd.ex he
  have Hof : Hid (∀ b, vf.ownBlock = some b → b < q) := fun b hb => hd.old b (.inr (.inr (.inr ⟨vf, hmf, hb⟩)))
  have Hoa : Hid (∀ b, va.ownBlock = some b → b < q) := fun b hb => hd.old b (.inr (.inr (.inr ⟨va, hma, hb⟩)))
  have Hrf : Hid (w.ownsRow 0 165 3 vf fs.length (funCells fs)) := hea.f
  have Hra : Hid (w.ownsRow 0 264 2 va am.length (armCells am)) := hea.a
  obtain ⟨fa, fc, rfl⟩ := ownsRow_len hea.f
  obtain ⟨aa, ac, rfl⟩ := ownsRow_len hea.a
  generalize hW : w.alloc (.cells #[.int .i64 22, .int .i64 nu, .int .i64 bi, .int .i64 f1, .int .i64 f2, .int .i64 f3, .slice fa fs.length fc, .slice aa am.length ac] 162) = W
  have hFW : Fr (fun _ => False) w W := by rw [← hW]; exact (Fr.refl _ w).alloc _
  have hX0 := Fx.start (hd.fr hFW)
  have hl : ¬ fown q S M w.heap.size := fun h' => by have := (hd.own_ge _ h').2; omega
  have hbl : W.heap[w.heap.size]? = some (.cells #[.int .i64 22, .int .i64 nu, .int .i64 bi, .int .i64 f1, .int .i64 f2, .int .i64 f3, .slice fa fs.length fc, .slice aa am.length ac] 162 (0, 0)) := by rw [← hW]; exact blk_new w _
  have HFW : Hid (Fr (fun _ => False) w W) := hFW
  have HL : Hid (∀ w' S' M' sg' bad', Fx q t root (.slice (some ⟨g, 0, none⟩) t.exps.length cap) P B cE W S M w' S' M' sg' bad' → w'.heap[w.heap.size]? = some (.cells #[.int .i64 22, .int .i64 nu, .int .i64 bi, .int .i64 f1, .int .i64 f2, .int .i64 f3, .slice fa fs.length fc, .slice aa am.length ac] 162 (0, 0))) := fun w' S' M' sg' bad' hx => hx.blk hl hbl
  obtain ⟨m0, m1, m2, m3, m4, m5, m6, m7⟩ := cells8 hbl
  clear hd hea hmf hma hl hbl hFW he
  go_enter Tryz.func71, Tryz.ntmps71
  go_wp2_with fail
  refine (hX0.exp (ih _ _ _ h)).mono ?_
  rintro r w1 ⟨rfl, S1, M1, hX1, -, -⟩
  clear hX0 hW m0 m1 m2 m3 m4 m5 m6 m7 d0 d1 d2 d3 d4 d5 d6 d7 c0
  go_wp2_with fail
  go_end0
  exact ⟨rfl, Fn1.pre HFW.out hX1.n1⟩

set_option maxHeartbeats 3200000 in
set_option maxRecDepth 100000 in
theorem fe_one23 (t : RS) (R : Int → List Int → Option Ed) (ih : FIh t R) (n : Nat) (nu bi f1 f2 f3 : Int) (fs : List (Int × Int × Int)) (am : List (Int × Int)) (i : Int) (sg : List Int) (b : Ed) (he : expAt t i = some ⟨23, nu, bi, f1, f2, f3, fs, am⟩) (h : R f1 sg = some b) : FCt t i sg b := by
  intro q root E P B cE S M bad w hd
  obtain ⟨⟨c0, -, -, -, -, -⟩, -⟩ := hd.cells
  have hq := hd.lt
  have hne := hd.ne
  obtain ⟨g, cap, m, vf, va, rfl, rfl, hm, hg, hea, ⟨hmf, hma⟩, d0, d1, d2, d3, d4, d5, d6, d7⟩ := hd.ex he
  have Hof : Hid (∀ b, vf.ownBlock = some b → b < q) := fun b hb => hd.old b (.inr (.inr (.inr ⟨vf, hmf, hb⟩)))
  have Hoa : Hid (∀ b, va.ownBlock = some b → b < q) := fun b hb => hd.old b (.inr (.inr (.inr ⟨va, hma, hb⟩)))
  have Hrf : Hid (w.ownsRow 0 165 3 vf fs.length (funCells fs)) := hea.f
  have Hra : Hid (w.ownsRow 0 264 2 va am.length (armCells am)) := hea.a
  obtain ⟨fa, fc, rfl⟩ := ownsRow_len hea.f
  obtain ⟨aa, ac, rfl⟩ := ownsRow_len hea.a
  generalize hW : w.alloc (.cells #[.int .i64 23, .int .i64 nu, .int .i64 bi, .int .i64 f1, .int .i64 f2, .int .i64 f3, .slice fa fs.length fc, .slice aa am.length ac] 162) = W
  have hFW : Fr (fun _ => False) w W := by rw [← hW]; exact (Fr.refl _ w).alloc _
  have hX0 := Fx.start (hd.fr hFW)
  have hl : ¬ fown q S M w.heap.size := fun h' => by have := (hd.own_ge _ h').2; omega
  have hbl : W.heap[w.heap.size]? = some (.cells #[.int .i64 23, .int .i64 nu, .int .i64 bi, .int .i64 f1, .int .i64 f2, .int .i64 f3, .slice fa fs.length fc, .slice aa am.length ac] 162 (0, 0)) := by rw [← hW]; exact blk_new w _
  have HFW : Hid (Fr (fun _ => False) w W) := hFW
  have HL : Hid (∀ w' S' M' sg' bad', Fx q t root (.slice (some ⟨g, 0, none⟩) t.exps.length cap) P B cE W S M w' S' M' sg' bad' → w'.heap[w.heap.size]? = some (.cells #[.int .i64 23, .int .i64 nu, .int .i64 bi, .int .i64 f1, .int .i64 f2, .int .i64 f3, .slice fa fs.length fc, .slice aa am.length ac] 162 (0, 0))) := fun w' S' M' sg' bad' hx => hx.blk hl hbl
  obtain ⟨m0, m1, m2, m3, m4, m5, m6, m7⟩ := cells8 hbl
  clear hd hea hmf hma hl hbl hFW he
  go_enter Tryz.func71, Tryz.ntmps71
  go_wp2_with fail
  refine (hX0.exp (ih _ _ _ h)).mono ?_
  rintro r w1 ⟨rfl, S1, M1, hX1, -, -⟩
  clear hX0 hW m0 m1 m2 m3 m4 m5 m6 m7 d0 d1 d2 d3 d4 d5 d6 d7 c0
  go_wp2_with fail
  go_end0
  exact ⟨rfl, Fn1.pre HFW.out hX1.n1⟩

set_option maxHeartbeats 3200000 in
set_option maxRecDepth 100000 in
theorem fe_one24 (t : RS) (R : Int → List Int → Option Ed) (ih : FIh t R) (n : Nat) (nu bi f1 f2 f3 : Int) (fs : List (Int × Int × Int)) (am : List (Int × Int)) (i : Int) (sg : List Int) (b : Ed) (he : expAt t i = some ⟨24, nu, bi, f1, f2, f3, fs, am⟩) (h : R f1 sg = some b) : FCt t i sg b := by
  intro q root E P B cE S M bad w hd
  obtain ⟨⟨c0, -, -, -, -, -⟩, -⟩ := hd.cells
  have hq := hd.lt
  have hne := hd.ne
  obtain ⟨g, cap, m, vf, va, rfl, rfl, hm, hg, hea, ⟨hmf, hma⟩, d0, d1, d2, d3, d4, d5, d6, d7⟩ := hd.ex he
  have Hof : Hid (∀ b, vf.ownBlock = some b → b < q) := fun b hb => hd.old b (.inr (.inr (.inr ⟨vf, hmf, hb⟩)))
  have Hoa : Hid (∀ b, va.ownBlock = some b → b < q) := fun b hb => hd.old b (.inr (.inr (.inr ⟨va, hma, hb⟩)))
  have Hrf : Hid (w.ownsRow 0 165 3 vf fs.length (funCells fs)) := hea.f
  have Hra : Hid (w.ownsRow 0 264 2 va am.length (armCells am)) := hea.a
  obtain ⟨fa, fc, rfl⟩ := ownsRow_len hea.f
  obtain ⟨aa, ac, rfl⟩ := ownsRow_len hea.a
  generalize hW : w.alloc (.cells #[.int .i64 24, .int .i64 nu, .int .i64 bi, .int .i64 f1, .int .i64 f2, .int .i64 f3, .slice fa fs.length fc, .slice aa am.length ac] 162) = W
  have hFW : Fr (fun _ => False) w W := by rw [← hW]; exact (Fr.refl _ w).alloc _
  have hX0 := Fx.start (hd.fr hFW)
  have hl : ¬ fown q S M w.heap.size := fun h' => by have := (hd.own_ge _ h').2; omega
  have hbl : W.heap[w.heap.size]? = some (.cells #[.int .i64 24, .int .i64 nu, .int .i64 bi, .int .i64 f1, .int .i64 f2, .int .i64 f3, .slice fa fs.length fc, .slice aa am.length ac] 162 (0, 0)) := by rw [← hW]; exact blk_new w _
  have HFW : Hid (Fr (fun _ => False) w W) := hFW
  have HL : Hid (∀ w' S' M' sg' bad', Fx q t root (.slice (some ⟨g, 0, none⟩) t.exps.length cap) P B cE W S M w' S' M' sg' bad' → w'.heap[w.heap.size]? = some (.cells #[.int .i64 24, .int .i64 nu, .int .i64 bi, .int .i64 f1, .int .i64 f2, .int .i64 f3, .slice fa fs.length fc, .slice aa am.length ac] 162 (0, 0))) := fun w' S' M' sg' bad' hx => hx.blk hl hbl
  obtain ⟨m0, m1, m2, m3, m4, m5, m6, m7⟩ := cells8 hbl
  clear hd hea hmf hma hl hbl hFW he
  go_enter Tryz.func71, Tryz.ntmps71
  go_wp2_with fail
  refine (hX0.exp (ih _ _ _ h)).mono ?_
  rintro r w1 ⟨rfl, S1, M1, hX1, -, -⟩
  clear hX0 hW m0 m1 m2 m3 m4 m5 m6 m7 d0 d1 d2 d3 d4 d5 d6 d7 c0
  go_wp2_with fail
  go_end0
  exact ⟨rfl, Fn1.pre HFW.out hX1.n1⟩

set_option maxHeartbeats 3200000 in
set_option maxRecDepth 100000 in
theorem fe_two7 (t : RS) (R : Int → List Int → Option Ed) (ih : FIh t R) (n : Nat) (nu bi f1 f2 f3 : Int) (fs : List (Int × Int × Int)) (am : List (Int × Int)) (i : Int) (sg : List Int) (b : Ed) (he : expAt t i = some ⟨7, nu, bi, f1, f2, f3, fs, am⟩) (x y : Ed) (hx : R f1 sg = some x) (hy : R f2 sg = some y) (hb : b = orE x y) : FCt t i sg b := by
  intro q root E P B cE S M bad w hd
  obtain ⟨⟨c0, -, -, -, -, -⟩, -⟩ := hd.cells
  have hq := hd.lt
  have hne := hd.ne
  obtain ⟨g, cap, m, vf, va, rfl, rfl, hm, hg, hea, ⟨hmf, hma⟩, d0, d1, d2, d3, d4, d5, d6, d7⟩ := hd.ex he
  have Hof : Hid (∀ b, vf.ownBlock = some b → b < q) := fun b hb => hd.old b (.inr (.inr (.inr ⟨vf, hmf, hb⟩)))
  have Hoa : Hid (∀ b, va.ownBlock = some b → b < q) := fun b hb => hd.old b (.inr (.inr (.inr ⟨va, hma, hb⟩)))
  have Hrf : Hid (w.ownsRow 0 165 3 vf fs.length (funCells fs)) := hea.f
  have Hra : Hid (w.ownsRow 0 264 2 va am.length (armCells am)) := hea.a
  obtain ⟨fa, fc, rfl⟩ := ownsRow_len hea.f
  obtain ⟨aa, ac, rfl⟩ := ownsRow_len hea.a
  generalize hW : w.alloc (.cells #[.int .i64 7, .int .i64 nu, .int .i64 bi, .int .i64 f1, .int .i64 f2, .int .i64 f3, .slice fa fs.length fc, .slice aa am.length ac] 162) = W
  have hFW : Fr (fun _ => False) w W := by rw [← hW]; exact (Fr.refl _ w).alloc _
  have hX0 := Fx.start (hd.fr hFW)
  have hl : ¬ fown q S M w.heap.size := fun h' => by have := (hd.own_ge _ h').2; omega
  have hbl : W.heap[w.heap.size]? = some (.cells #[.int .i64 7, .int .i64 nu, .int .i64 bi, .int .i64 f1, .int .i64 f2, .int .i64 f3, .slice fa fs.length fc, .slice aa am.length ac] 162 (0, 0)) := by rw [← hW]; exact blk_new w _
  have HFW : Hid (Fr (fun _ => False) w W) := hFW
  have HL : Hid (∀ w' S' M' sg' bad', Fx q t root (.slice (some ⟨g, 0, none⟩) t.exps.length cap) P B cE W S M w' S' M' sg' bad' → w'.heap[w.heap.size]? = some (.cells #[.int .i64 7, .int .i64 nu, .int .i64 bi, .int .i64 f1, .int .i64 f2, .int .i64 f3, .slice fa fs.length fc, .slice aa am.length ac] 162 (0, 0))) := fun w' S' M' sg' bad' hx => hx.blk hl hbl
  obtain ⟨m0, m1, m2, m3, m4, m5, m6, m7⟩ := cells8 hbl
  have Hb : Hid (b = orE x y) := hb
  clear hb
  clear hd hea hmf hma hl hbl hFW he
  go_enter Tryz.func71, Tryz.ntmps71
  go_wp2_with fail
  refine (hX0.exp (ih _ _ _ hx)).mono ?_
  rintro r w1 ⟨rfl, S1, M1, hX1, -, -⟩
  clear hX0 hW m0 m1 m2 m3 m4 m5 m6 m7 d0 d1 d2 d3 d4 d5 d6 d7 c0
  have hbl1 := HL.out _ _ _ _ _ hX1
  obtain ⟨-, -, -, -, m4, -, -, -⟩ := cells8 hbl1
  clear hbl1
  go_wp2_with fail
  refine (hX1.exp (ih _ _ _ hy)).mono ?_
  rintro r w2 ⟨rfl, S2, M2, hX2, -, -⟩
  clear hX1 m4
  go_wp2_with fail
  go_end0
  exact ⟨rfl, Fn1.pre HFW.out (by rw [Hb.out, ← orE_assoc]; exact hX2.n1)⟩

set_option maxHeartbeats 3200000 in
set_option maxRecDepth 100000 in
theorem fe_two8 (t : RS) (R : Int → List Int → Option Ed) (ih : FIh t R) (n : Nat) (nu bi f1 f2 f3 : Int) (fs : List (Int × Int × Int)) (am : List (Int × Int)) (i : Int) (sg : List Int) (b : Ed) (he : expAt t i = some ⟨8, nu, bi, f1, f2, f3, fs, am⟩) (x y : Ed) (hx : R f1 sg = some x) (hy : R f2 sg = some y) (hb : b = orE x y) : FCt t i sg b := by
  intro q root E P B cE S M bad w hd
  obtain ⟨⟨c0, -, -, -, -, -⟩, -⟩ := hd.cells
  have hq := hd.lt
  have hne := hd.ne
  obtain ⟨g, cap, m, vf, va, rfl, rfl, hm, hg, hea, ⟨hmf, hma⟩, d0, d1, d2, d3, d4, d5, d6, d7⟩ := hd.ex he
  have Hof : Hid (∀ b, vf.ownBlock = some b → b < q) := fun b hb => hd.old b (.inr (.inr (.inr ⟨vf, hmf, hb⟩)))
  have Hoa : Hid (∀ b, va.ownBlock = some b → b < q) := fun b hb => hd.old b (.inr (.inr (.inr ⟨va, hma, hb⟩)))
  have Hrf : Hid (w.ownsRow 0 165 3 vf fs.length (funCells fs)) := hea.f
  have Hra : Hid (w.ownsRow 0 264 2 va am.length (armCells am)) := hea.a
  obtain ⟨fa, fc, rfl⟩ := ownsRow_len hea.f
  obtain ⟨aa, ac, rfl⟩ := ownsRow_len hea.a
  generalize hW : w.alloc (.cells #[.int .i64 8, .int .i64 nu, .int .i64 bi, .int .i64 f1, .int .i64 f2, .int .i64 f3, .slice fa fs.length fc, .slice aa am.length ac] 162) = W
  have hFW : Fr (fun _ => False) w W := by rw [← hW]; exact (Fr.refl _ w).alloc _
  have hX0 := Fx.start (hd.fr hFW)
  have hl : ¬ fown q S M w.heap.size := fun h' => by have := (hd.own_ge _ h').2; omega
  have hbl : W.heap[w.heap.size]? = some (.cells #[.int .i64 8, .int .i64 nu, .int .i64 bi, .int .i64 f1, .int .i64 f2, .int .i64 f3, .slice fa fs.length fc, .slice aa am.length ac] 162 (0, 0)) := by rw [← hW]; exact blk_new w _
  have HFW : Hid (Fr (fun _ => False) w W) := hFW
  have HL : Hid (∀ w' S' M' sg' bad', Fx q t root (.slice (some ⟨g, 0, none⟩) t.exps.length cap) P B cE W S M w' S' M' sg' bad' → w'.heap[w.heap.size]? = some (.cells #[.int .i64 8, .int .i64 nu, .int .i64 bi, .int .i64 f1, .int .i64 f2, .int .i64 f3, .slice fa fs.length fc, .slice aa am.length ac] 162 (0, 0))) := fun w' S' M' sg' bad' hx => hx.blk hl hbl
  obtain ⟨m0, m1, m2, m3, m4, m5, m6, m7⟩ := cells8 hbl
  have Hb : Hid (b = orE x y) := hb
  clear hb
  clear hd hea hmf hma hl hbl hFW he
  go_enter Tryz.func71, Tryz.ntmps71
  go_wp2_with fail
  refine (hX0.exp (ih _ _ _ hx)).mono ?_
  rintro r w1 ⟨rfl, S1, M1, hX1, -, -⟩
  clear hX0 hW m0 m1 m2 m3 m4 m5 m6 m7 d0 d1 d2 d3 d4 d5 d6 d7 c0
  have hbl1 := HL.out _ _ _ _ _ hX1
  obtain ⟨-, -, -, -, m4, -, -, -⟩ := cells8 hbl1
  clear hbl1
  go_wp2_with fail
  refine (hX1.exp (ih _ _ _ hy)).mono ?_
  rintro r w2 ⟨rfl, S2, M2, hX2, -, -⟩
  clear hX1 m4
  go_wp2_with fail
  go_end0
  exact ⟨rfl, Fn1.pre HFW.out (by rw [Hb.out, ← orE_assoc]; exact hX2.n1)⟩

set_option maxHeartbeats 3200000 in
set_option maxRecDepth 100000 in
theorem fe_two16 (t : RS) (R : Int → List Int → Option Ed) (ih : FIh t R) (n : Nat) (nu bi f1 f2 f3 : Int) (fs : List (Int × Int × Int)) (am : List (Int × Int)) (i : Int) (sg : List Int) (b : Ed) (he : expAt t i = some ⟨16, nu, bi, f1, f2, f3, fs, am⟩) (x y : Ed) (hx : R f1 sg = some x) (hy : R f2 sg = some y) (hb : b = orE x y) : FCt t i sg b := by
  intro q root E P B cE S M bad w hd
  obtain ⟨⟨c0, -, -, -, -, -⟩, -⟩ := hd.cells
  have hq := hd.lt
  have hne := hd.ne
  obtain ⟨g, cap, m, vf, va, rfl, rfl, hm, hg, hea, ⟨hmf, hma⟩, d0, d1, d2, d3, d4, d5, d6, d7⟩ := hd.ex he
  have Hof : Hid (∀ b, vf.ownBlock = some b → b < q) := fun b hb => hd.old b (.inr (.inr (.inr ⟨vf, hmf, hb⟩)))
  have Hoa : Hid (∀ b, va.ownBlock = some b → b < q) := fun b hb => hd.old b (.inr (.inr (.inr ⟨va, hma, hb⟩)))
  have Hrf : Hid (w.ownsRow 0 165 3 vf fs.length (funCells fs)) := hea.f
  have Hra : Hid (w.ownsRow 0 264 2 va am.length (armCells am)) := hea.a
  obtain ⟨fa, fc, rfl⟩ := ownsRow_len hea.f
  obtain ⟨aa, ac, rfl⟩ := ownsRow_len hea.a
  generalize hW : w.alloc (.cells #[.int .i64 16, .int .i64 nu, .int .i64 bi, .int .i64 f1, .int .i64 f2, .int .i64 f3, .slice fa fs.length fc, .slice aa am.length ac] 162) = W
  have hFW : Fr (fun _ => False) w W := by rw [← hW]; exact (Fr.refl _ w).alloc _
  have hX0 := Fx.start (hd.fr hFW)
  have hl : ¬ fown q S M w.heap.size := fun h' => by have := (hd.own_ge _ h').2; omega
  have hbl : W.heap[w.heap.size]? = some (.cells #[.int .i64 16, .int .i64 nu, .int .i64 bi, .int .i64 f1, .int .i64 f2, .int .i64 f3, .slice fa fs.length fc, .slice aa am.length ac] 162 (0, 0)) := by rw [← hW]; exact blk_new w _
  have HFW : Hid (Fr (fun _ => False) w W) := hFW
  have HL : Hid (∀ w' S' M' sg' bad', Fx q t root (.slice (some ⟨g, 0, none⟩) t.exps.length cap) P B cE W S M w' S' M' sg' bad' → w'.heap[w.heap.size]? = some (.cells #[.int .i64 16, .int .i64 nu, .int .i64 bi, .int .i64 f1, .int .i64 f2, .int .i64 f3, .slice fa fs.length fc, .slice aa am.length ac] 162 (0, 0))) := fun w' S' M' sg' bad' hx => hx.blk hl hbl
  obtain ⟨m0, m1, m2, m3, m4, m5, m6, m7⟩ := cells8 hbl
  have Hb : Hid (b = orE x y) := hb
  clear hb
  clear hd hea hmf hma hl hbl hFW he
  go_enter Tryz.func71, Tryz.ntmps71
  go_wp2_with fail
  refine (hX0.exp (ih _ _ _ hx)).mono ?_
  rintro r w1 ⟨rfl, S1, M1, hX1, -, -⟩
  clear hX0 hW m0 m1 m2 m3 m4 m5 m6 m7 d0 d1 d2 d3 d4 d5 d6 d7 c0
  have hbl1 := HL.out _ _ _ _ _ hX1
  obtain ⟨-, -, -, -, m4, -, -, -⟩ := cells8 hbl1
  clear hbl1
  go_wp2_with fail
  refine (hX1.exp (ih _ _ _ hy)).mono ?_
  rintro r w2 ⟨rfl, S2, M2, hX2, -, -⟩
  clear hX1 m4
  go_wp2_with fail
  go_end0
  exact ⟨rfl, Fn1.pre HFW.out (by rw [Hb.out, ← orE_assoc]; exact hX2.n1)⟩

set_option maxHeartbeats 3200000 in
set_option maxRecDepth 100000 in
theorem fe_two17 (t : RS) (R : Int → List Int → Option Ed) (ih : FIh t R) (n : Nat) (nu bi f1 f2 f3 : Int) (fs : List (Int × Int × Int)) (am : List (Int × Int)) (i : Int) (sg : List Int) (b : Ed) (he : expAt t i = some ⟨17, nu, bi, f1, f2, f3, fs, am⟩) (x y : Ed) (hx : R f1 sg = some x) (hy : R f2 sg = some y) (hb : b = orE x y) : FCt t i sg b := by
  intro q root E P B cE S M bad w hd
  obtain ⟨⟨c0, -, -, -, -, -⟩, -⟩ := hd.cells
  have hq := hd.lt
  have hne := hd.ne
  obtain ⟨g, cap, m, vf, va, rfl, rfl, hm, hg, hea, ⟨hmf, hma⟩, d0, d1, d2, d3, d4, d5, d6, d7⟩ := hd.ex he
  have Hof : Hid (∀ b, vf.ownBlock = some b → b < q) := fun b hb => hd.old b (.inr (.inr (.inr ⟨vf, hmf, hb⟩)))
  have Hoa : Hid (∀ b, va.ownBlock = some b → b < q) := fun b hb => hd.old b (.inr (.inr (.inr ⟨va, hma, hb⟩)))
  have Hrf : Hid (w.ownsRow 0 165 3 vf fs.length (funCells fs)) := hea.f
  have Hra : Hid (w.ownsRow 0 264 2 va am.length (armCells am)) := hea.a
  obtain ⟨fa, fc, rfl⟩ := ownsRow_len hea.f
  obtain ⟨aa, ac, rfl⟩ := ownsRow_len hea.a
  generalize hW : w.alloc (.cells #[.int .i64 17, .int .i64 nu, .int .i64 bi, .int .i64 f1, .int .i64 f2, .int .i64 f3, .slice fa fs.length fc, .slice aa am.length ac] 162) = W
  have hFW : Fr (fun _ => False) w W := by rw [← hW]; exact (Fr.refl _ w).alloc _
  have hX0 := Fx.start (hd.fr hFW)
  have hl : ¬ fown q S M w.heap.size := fun h' => by have := (hd.own_ge _ h').2; omega
  have hbl : W.heap[w.heap.size]? = some (.cells #[.int .i64 17, .int .i64 nu, .int .i64 bi, .int .i64 f1, .int .i64 f2, .int .i64 f3, .slice fa fs.length fc, .slice aa am.length ac] 162 (0, 0)) := by rw [← hW]; exact blk_new w _
  have HFW : Hid (Fr (fun _ => False) w W) := hFW
  have HL : Hid (∀ w' S' M' sg' bad', Fx q t root (.slice (some ⟨g, 0, none⟩) t.exps.length cap) P B cE W S M w' S' M' sg' bad' → w'.heap[w.heap.size]? = some (.cells #[.int .i64 17, .int .i64 nu, .int .i64 bi, .int .i64 f1, .int .i64 f2, .int .i64 f3, .slice fa fs.length fc, .slice aa am.length ac] 162 (0, 0))) := fun w' S' M' sg' bad' hx => hx.blk hl hbl
  obtain ⟨m0, m1, m2, m3, m4, m5, m6, m7⟩ := cells8 hbl
  have Hb : Hid (b = orE x y) := hb
  clear hb
  clear hd hea hmf hma hl hbl hFW he
  go_enter Tryz.func71, Tryz.ntmps71
  go_wp2_with fail
  refine (hX0.exp (ih _ _ _ hx)).mono ?_
  rintro r w1 ⟨rfl, S1, M1, hX1, -, -⟩
  clear hX0 hW m0 m1 m2 m3 m4 m5 m6 m7 d0 d1 d2 d3 d4 d5 d6 d7 c0
  have hbl1 := HL.out _ _ _ _ _ hX1
  obtain ⟨-, -, -, -, m4, -, -, -⟩ := cells8 hbl1
  clear hbl1
  go_wp2_with fail
  refine (hX1.exp (ih _ _ _ hy)).mono ?_
  rintro r w2 ⟨rfl, S2, M2, hX2, -, -⟩
  clear hX1 m4
  go_wp2_with fail
  go_end0
  exact ⟨rfl, Fn1.pre HFW.out (by rw [Hb.out, ← orE_assoc]; exact hX2.n1)⟩

set_option maxHeartbeats 3200000 in
set_option maxRecDepth 100000 in
theorem fe_two18 (t : RS) (R : Int → List Int → Option Ed) (ih : FIh t R) (n : Nat) (nu bi f1 f2 f3 : Int) (fs : List (Int × Int × Int)) (am : List (Int × Int)) (i : Int) (sg : List Int) (b : Ed) (he : expAt t i = some ⟨18, nu, bi, f1, f2, f3, fs, am⟩) (x y : Ed) (hx : R f1 sg = some x) (hy : R f2 sg = some y) (hb : b = orE x y) : FCt t i sg b := by
  intro q root E P B cE S M bad w hd
  obtain ⟨⟨c0, -, -, -, -, -⟩, -⟩ := hd.cells
  have hq := hd.lt
  have hne := hd.ne
  obtain ⟨g, cap, m, vf, va, rfl, rfl, hm, hg, hea, ⟨hmf, hma⟩, d0, d1, d2, d3, d4, d5, d6, d7⟩ := hd.ex he
  have Hof : Hid (∀ b, vf.ownBlock = some b → b < q) := fun b hb => hd.old b (.inr (.inr (.inr ⟨vf, hmf, hb⟩)))
  have Hoa : Hid (∀ b, va.ownBlock = some b → b < q) := fun b hb => hd.old b (.inr (.inr (.inr ⟨va, hma, hb⟩)))
  have Hrf : Hid (w.ownsRow 0 165 3 vf fs.length (funCells fs)) := hea.f
  have Hra : Hid (w.ownsRow 0 264 2 va am.length (armCells am)) := hea.a
  obtain ⟨fa, fc, rfl⟩ := ownsRow_len hea.f
  obtain ⟨aa, ac, rfl⟩ := ownsRow_len hea.a
  generalize hW : w.alloc (.cells #[.int .i64 18, .int .i64 nu, .int .i64 bi, .int .i64 f1, .int .i64 f2, .int .i64 f3, .slice fa fs.length fc, .slice aa am.length ac] 162) = W
  have hFW : Fr (fun _ => False) w W := by rw [← hW]; exact (Fr.refl _ w).alloc _
  have hX0 := Fx.start (hd.fr hFW)
  have hl : ¬ fown q S M w.heap.size := fun h' => by have := (hd.own_ge _ h').2; omega
  have hbl : W.heap[w.heap.size]? = some (.cells #[.int .i64 18, .int .i64 nu, .int .i64 bi, .int .i64 f1, .int .i64 f2, .int .i64 f3, .slice fa fs.length fc, .slice aa am.length ac] 162 (0, 0)) := by rw [← hW]; exact blk_new w _
  have HFW : Hid (Fr (fun _ => False) w W) := hFW
  have HL : Hid (∀ w' S' M' sg' bad', Fx q t root (.slice (some ⟨g, 0, none⟩) t.exps.length cap) P B cE W S M w' S' M' sg' bad' → w'.heap[w.heap.size]? = some (.cells #[.int .i64 18, .int .i64 nu, .int .i64 bi, .int .i64 f1, .int .i64 f2, .int .i64 f3, .slice fa fs.length fc, .slice aa am.length ac] 162 (0, 0))) := fun w' S' M' sg' bad' hx => hx.blk hl hbl
  obtain ⟨m0, m1, m2, m3, m4, m5, m6, m7⟩ := cells8 hbl
  have Hb : Hid (b = orE x y) := hb
  clear hb
  clear hd hea hmf hma hl hbl hFW he
  go_enter Tryz.func71, Tryz.ntmps71
  go_wp2_with fail
  refine (hX0.exp (ih _ _ _ hx)).mono ?_
  rintro r w1 ⟨rfl, S1, M1, hX1, -, -⟩
  clear hX0 hW m0 m1 m2 m3 m4 m5 m6 m7 d0 d1 d2 d3 d4 d5 d6 d7 c0
  have hbl1 := HL.out _ _ _ _ _ hX1
  obtain ⟨-, -, -, -, m4, -, -, -⟩ := cells8 hbl1
  clear hbl1
  go_wp2_with fail
  refine (hX1.exp (ih _ _ _ hy)).mono ?_
  rintro r w2 ⟨rfl, S2, M2, hX2, -, -⟩
  clear hX1 m4
  go_wp2_with fail
  go_end0
  exact ⟨rfl, Fn1.pre HFW.out (by rw [Hb.out, ← orE_assoc]; exact hX2.n1)⟩

set_option maxHeartbeats 3200000 in
set_option maxRecDepth 100000 in
theorem fe_two19 (t : RS) (R : Int → List Int → Option Ed) (ih : FIh t R) (n : Nat) (nu bi f1 f2 f3 : Int) (fs : List (Int × Int × Int)) (am : List (Int × Int)) (i : Int) (sg : List Int) (b : Ed) (he : expAt t i = some ⟨19, nu, bi, f1, f2, f3, fs, am⟩) (x y : Ed) (hx : R f1 sg = some x) (hy : R f2 sg = some y) (hb : b = orE x y) : FCt t i sg b := by
  intro q root E P B cE S M bad w hd
  obtain ⟨⟨c0, -, -, -, -, -⟩, -⟩ := hd.cells
  have hq := hd.lt
  have hne := hd.ne
  obtain ⟨g, cap, m, vf, va, rfl, rfl, hm, hg, hea, ⟨hmf, hma⟩, d0, d1, d2, d3, d4, d5, d6, d7⟩ := hd.ex he
  have Hof : Hid (∀ b, vf.ownBlock = some b → b < q) := fun b hb => hd.old b (.inr (.inr (.inr ⟨vf, hmf, hb⟩)))
  have Hoa : Hid (∀ b, va.ownBlock = some b → b < q) := fun b hb => hd.old b (.inr (.inr (.inr ⟨va, hma, hb⟩)))
  have Hrf : Hid (w.ownsRow 0 165 3 vf fs.length (funCells fs)) := hea.f
  have Hra : Hid (w.ownsRow 0 264 2 va am.length (armCells am)) := hea.a
  obtain ⟨fa, fc, rfl⟩ := ownsRow_len hea.f
  obtain ⟨aa, ac, rfl⟩ := ownsRow_len hea.a
  generalize hW : w.alloc (.cells #[.int .i64 19, .int .i64 nu, .int .i64 bi, .int .i64 f1, .int .i64 f2, .int .i64 f3, .slice fa fs.length fc, .slice aa am.length ac] 162) = W
  have hFW : Fr (fun _ => False) w W := by rw [← hW]; exact (Fr.refl _ w).alloc _
  have hX0 := Fx.start (hd.fr hFW)
  have hl : ¬ fown q S M w.heap.size := fun h' => by have := (hd.own_ge _ h').2; omega
  have hbl : W.heap[w.heap.size]? = some (.cells #[.int .i64 19, .int .i64 nu, .int .i64 bi, .int .i64 f1, .int .i64 f2, .int .i64 f3, .slice fa fs.length fc, .slice aa am.length ac] 162 (0, 0)) := by rw [← hW]; exact blk_new w _
  have HFW : Hid (Fr (fun _ => False) w W) := hFW
  have HL : Hid (∀ w' S' M' sg' bad', Fx q t root (.slice (some ⟨g, 0, none⟩) t.exps.length cap) P B cE W S M w' S' M' sg' bad' → w'.heap[w.heap.size]? = some (.cells #[.int .i64 19, .int .i64 nu, .int .i64 bi, .int .i64 f1, .int .i64 f2, .int .i64 f3, .slice fa fs.length fc, .slice aa am.length ac] 162 (0, 0))) := fun w' S' M' sg' bad' hx => hx.blk hl hbl
  obtain ⟨m0, m1, m2, m3, m4, m5, m6, m7⟩ := cells8 hbl
  have Hb : Hid (b = orE x y) := hb
  clear hb
  clear hd hea hmf hma hl hbl hFW he
  go_enter Tryz.func71, Tryz.ntmps71
  go_wp2_with fail
  refine (hX0.exp (ih _ _ _ hx)).mono ?_
  rintro r w1 ⟨rfl, S1, M1, hX1, -, -⟩
  clear hX0 hW m0 m1 m2 m3 m4 m5 m6 m7 d0 d1 d2 d3 d4 d5 d6 d7 c0
  have hbl1 := HL.out _ _ _ _ _ hX1
  obtain ⟨-, -, -, -, m4, -, -, -⟩ := cells8 hbl1
  clear hbl1
  go_wp2_with fail
  refine (hX1.exp (ih _ _ _ hy)).mono ?_
  rintro r w2 ⟨rfl, S2, M2, hX2, -, -⟩
  clear hX1 m4
  go_wp2_with fail
  go_end0
  exact ⟨rfl, Fn1.pre HFW.out (by rw [Hb.out, ← orE_assoc]; exact hX2.n1)⟩

set_option maxHeartbeats 3200000 in
set_option maxRecDepth 100000 in
theorem fe_two20 (t : RS) (R : Int → List Int → Option Ed) (ih : FIh t R) (n : Nat) (nu bi f1 f2 f3 : Int) (fs : List (Int × Int × Int)) (am : List (Int × Int)) (i : Int) (sg : List Int) (b : Ed) (he : expAt t i = some ⟨20, nu, bi, f1, f2, f3, fs, am⟩) (x y : Ed) (hx : R f1 sg = some x) (hy : R f2 sg = some y) (hb : b = orE x y) : FCt t i sg b := by
  intro q root E P B cE S M bad w hd
  obtain ⟨⟨c0, -, -, -, -, -⟩, -⟩ := hd.cells
  have hq := hd.lt
  have hne := hd.ne
  obtain ⟨g, cap, m, vf, va, rfl, rfl, hm, hg, hea, ⟨hmf, hma⟩, d0, d1, d2, d3, d4, d5, d6, d7⟩ := hd.ex he
  have Hof : Hid (∀ b, vf.ownBlock = some b → b < q) := fun b hb => hd.old b (.inr (.inr (.inr ⟨vf, hmf, hb⟩)))
  have Hoa : Hid (∀ b, va.ownBlock = some b → b < q) := fun b hb => hd.old b (.inr (.inr (.inr ⟨va, hma, hb⟩)))
  have Hrf : Hid (w.ownsRow 0 165 3 vf fs.length (funCells fs)) := hea.f
  have Hra : Hid (w.ownsRow 0 264 2 va am.length (armCells am)) := hea.a
  obtain ⟨fa, fc, rfl⟩ := ownsRow_len hea.f
  obtain ⟨aa, ac, rfl⟩ := ownsRow_len hea.a
  generalize hW : w.alloc (.cells #[.int .i64 20, .int .i64 nu, .int .i64 bi, .int .i64 f1, .int .i64 f2, .int .i64 f3, .slice fa fs.length fc, .slice aa am.length ac] 162) = W
  have hFW : Fr (fun _ => False) w W := by rw [← hW]; exact (Fr.refl _ w).alloc _
  have hX0 := Fx.start (hd.fr hFW)
  have hl : ¬ fown q S M w.heap.size := fun h' => by have := (hd.own_ge _ h').2; omega
  have hbl : W.heap[w.heap.size]? = some (.cells #[.int .i64 20, .int .i64 nu, .int .i64 bi, .int .i64 f1, .int .i64 f2, .int .i64 f3, .slice fa fs.length fc, .slice aa am.length ac] 162 (0, 0)) := by rw [← hW]; exact blk_new w _
  have HFW : Hid (Fr (fun _ => False) w W) := hFW
  have HL : Hid (∀ w' S' M' sg' bad', Fx q t root (.slice (some ⟨g, 0, none⟩) t.exps.length cap) P B cE W S M w' S' M' sg' bad' → w'.heap[w.heap.size]? = some (.cells #[.int .i64 20, .int .i64 nu, .int .i64 bi, .int .i64 f1, .int .i64 f2, .int .i64 f3, .slice fa fs.length fc, .slice aa am.length ac] 162 (0, 0))) := fun w' S' M' sg' bad' hx => hx.blk hl hbl
  obtain ⟨m0, m1, m2, m3, m4, m5, m6, m7⟩ := cells8 hbl
  have Hb : Hid (b = orE x y) := hb
  clear hb
  clear hd hea hmf hma hl hbl hFW he
  go_enter Tryz.func71, Tryz.ntmps71
  go_wp2_with fail
  refine (hX0.exp (ih _ _ _ hx)).mono ?_
  rintro r w1 ⟨rfl, S1, M1, hX1, -, -⟩
  clear hX0 hW m0 m1 m2 m3 m4 m5 m6 m7 d0 d1 d2 d3 d4 d5 d6 d7 c0
  have hbl1 := HL.out _ _ _ _ _ hX1
  obtain ⟨-, -, -, -, m4, -, -, -⟩ := cells8 hbl1
  clear hbl1
  go_wp2_with fail
  refine (hX1.exp (ih _ _ _ hy)).mono ?_
  rintro r w2 ⟨rfl, S2, M2, hX2, -, -⟩
  clear hX1 m4
  go_wp2_with fail
  go_end0
  exact ⟨rfl, Fn1.pre HFW.out (by rw [Hb.out, ← orE_assoc]; exact hX2.n1)⟩

set_option maxHeartbeats 3200000 in
set_option maxRecDepth 100000 in
theorem fe_two21 (t : RS) (R : Int → List Int → Option Ed) (ih : FIh t R) (n : Nat) (nu bi f1 f2 f3 : Int) (fs : List (Int × Int × Int)) (am : List (Int × Int)) (i : Int) (sg : List Int) (b : Ed) (he : expAt t i = some ⟨21, nu, bi, f1, f2, f3, fs, am⟩) (x y : Ed) (hx : R f1 sg = some x) (hy : R f2 sg = some y) (hb : b = orE x y) : FCt t i sg b := by
  intro q root E P B cE S M bad w hd
  obtain ⟨⟨c0, -, -, -, -, -⟩, -⟩ := hd.cells
  have hq := hd.lt
  have hne := hd.ne
  obtain ⟨g, cap, m, vf, va, rfl, rfl, hm, hg, hea, ⟨hmf, hma⟩, d0, d1, d2, d3, d4, d5, d6, d7⟩ := hd.ex he
  have Hof : Hid (∀ b, vf.ownBlock = some b → b < q) := fun b hb => hd.old b (.inr (.inr (.inr ⟨vf, hmf, hb⟩)))
  have Hoa : Hid (∀ b, va.ownBlock = some b → b < q) := fun b hb => hd.old b (.inr (.inr (.inr ⟨va, hma, hb⟩)))
  have Hrf : Hid (w.ownsRow 0 165 3 vf fs.length (funCells fs)) := hea.f
  have Hra : Hid (w.ownsRow 0 264 2 va am.length (armCells am)) := hea.a
  obtain ⟨fa, fc, rfl⟩ := ownsRow_len hea.f
  obtain ⟨aa, ac, rfl⟩ := ownsRow_len hea.a
  generalize hW : w.alloc (.cells #[.int .i64 21, .int .i64 nu, .int .i64 bi, .int .i64 f1, .int .i64 f2, .int .i64 f3, .slice fa fs.length fc, .slice aa am.length ac] 162) = W
  have hFW : Fr (fun _ => False) w W := by rw [← hW]; exact (Fr.refl _ w).alloc _
  have hX0 := Fx.start (hd.fr hFW)
  have hl : ¬ fown q S M w.heap.size := fun h' => by have := (hd.own_ge _ h').2; omega
  have hbl : W.heap[w.heap.size]? = some (.cells #[.int .i64 21, .int .i64 nu, .int .i64 bi, .int .i64 f1, .int .i64 f2, .int .i64 f3, .slice fa fs.length fc, .slice aa am.length ac] 162 (0, 0)) := by rw [← hW]; exact blk_new w _
  have HFW : Hid (Fr (fun _ => False) w W) := hFW
  have HL : Hid (∀ w' S' M' sg' bad', Fx q t root (.slice (some ⟨g, 0, none⟩) t.exps.length cap) P B cE W S M w' S' M' sg' bad' → w'.heap[w.heap.size]? = some (.cells #[.int .i64 21, .int .i64 nu, .int .i64 bi, .int .i64 f1, .int .i64 f2, .int .i64 f3, .slice fa fs.length fc, .slice aa am.length ac] 162 (0, 0))) := fun w' S' M' sg' bad' hx => hx.blk hl hbl
  obtain ⟨m0, m1, m2, m3, m4, m5, m6, m7⟩ := cells8 hbl
  have Hb : Hid (b = orE x y) := hb
  clear hb
  clear hd hea hmf hma hl hbl hFW he
  go_enter Tryz.func71, Tryz.ntmps71
  go_wp2_with fail
  refine (hX0.exp (ih _ _ _ hx)).mono ?_
  rintro r w1 ⟨rfl, S1, M1, hX1, -, -⟩
  clear hX0 hW m0 m1 m2 m3 m4 m5 m6 m7 d0 d1 d2 d3 d4 d5 d6 d7 c0
  have hbl1 := HL.out _ _ _ _ _ hX1
  obtain ⟨-, -, -, -, m4, -, -, -⟩ := cells8 hbl1
  clear hbl1
  go_wp2_with fail
  refine (hX1.exp (ih _ _ _ hy)).mono ?_
  rintro r w2 ⟨rfl, S2, M2, hX2, -, -⟩
  clear hX1 m4
  go_wp2_with fail
  go_end0
  exact ⟨rfl, Fn1.pre HFW.out (by rw [Hb.out, ← orE_assoc]; exact hX2.n1)⟩

set_option maxHeartbeats 3200000 in
set_option maxRecDepth 100000 in
theorem fe_two25 (t : RS) (R : Int → List Int → Option Ed) (ih : FIh t R) (n : Nat) (nu bi f1 f2 f3 : Int) (fs : List (Int × Int × Int)) (am : List (Int × Int)) (i : Int) (sg : List Int) (b : Ed) (he : expAt t i = some ⟨25, nu, bi, f1, f2, f3, fs, am⟩) (x y : Ed) (hx : R f1 sg = some x) (hy : R f2 sg = some y) (hb : b = orE x y) : FCt t i sg b := by
  intro q root E P B cE S M bad w hd
  obtain ⟨⟨c0, -, -, -, -, -⟩, -⟩ := hd.cells
  have hq := hd.lt
  have hne := hd.ne
  obtain ⟨g, cap, m, vf, va, rfl, rfl, hm, hg, hea, ⟨hmf, hma⟩, d0, d1, d2, d3, d4, d5, d6, d7⟩ := hd.ex he
  have Hof : Hid (∀ b, vf.ownBlock = some b → b < q) := fun b hb => hd.old b (.inr (.inr (.inr ⟨vf, hmf, hb⟩)))
  have Hoa : Hid (∀ b, va.ownBlock = some b → b < q) := fun b hb => hd.old b (.inr (.inr (.inr ⟨va, hma, hb⟩)))
  have Hrf : Hid (w.ownsRow 0 165 3 vf fs.length (funCells fs)) := hea.f
  have Hra : Hid (w.ownsRow 0 264 2 va am.length (armCells am)) := hea.a
  obtain ⟨fa, fc, rfl⟩ := ownsRow_len hea.f
  obtain ⟨aa, ac, rfl⟩ := ownsRow_len hea.a
  generalize hW : w.alloc (.cells #[.int .i64 25, .int .i64 nu, .int .i64 bi, .int .i64 f1, .int .i64 f2, .int .i64 f3, .slice fa fs.length fc, .slice aa am.length ac] 162) = W
  have hFW : Fr (fun _ => False) w W := by rw [← hW]; exact (Fr.refl _ w).alloc _
  have hX0 := Fx.start (hd.fr hFW)
  have hl : ¬ fown q S M w.heap.size := fun h' => by have := (hd.own_ge _ h').2; omega
  have hbl : W.heap[w.heap.size]? = some (.cells #[.int .i64 25, .int .i64 nu, .int .i64 bi, .int .i64 f1, .int .i64 f2, .int .i64 f3, .slice fa fs.length fc, .slice aa am.length ac] 162 (0, 0)) := by rw [← hW]; exact blk_new w _
  have HFW : Hid (Fr (fun _ => False) w W) := hFW
  have HL : Hid (∀ w' S' M' sg' bad', Fx q t root (.slice (some ⟨g, 0, none⟩) t.exps.length cap) P B cE W S M w' S' M' sg' bad' → w'.heap[w.heap.size]? = some (.cells #[.int .i64 25, .int .i64 nu, .int .i64 bi, .int .i64 f1, .int .i64 f2, .int .i64 f3, .slice fa fs.length fc, .slice aa am.length ac] 162 (0, 0))) := fun w' S' M' sg' bad' hx => hx.blk hl hbl
  obtain ⟨m0, m1, m2, m3, m4, m5, m6, m7⟩ := cells8 hbl
  have Hb : Hid (b = orE x y) := hb
  clear hb
  clear hd hea hmf hma hl hbl hFW he
  go_enter Tryz.func71, Tryz.ntmps71
  go_wp2_with fail
  refine (hX0.exp (ih _ _ _ hx)).mono ?_
  rintro r w1 ⟨rfl, S1, M1, hX1, -, -⟩
  clear hX0 hW m0 m1 m2 m3 m4 m5 m6 m7 d0 d1 d2 d3 d4 d5 d6 d7 c0
  have hbl1 := HL.out _ _ _ _ _ hX1
  obtain ⟨-, -, -, -, m4, -, -, -⟩ := cells8 hbl1
  clear hbl1
  go_wp2_with fail
  refine (hX1.exp (ih _ _ _ hy)).mono ?_
  rintro r w2 ⟨rfl, S2, M2, hX2, -, -⟩
  clear hX1 m4
  go_wp2_with fail
  go_end0
  exact ⟨rfl, Fn1.pre HFW.out (by rw [Hb.out, ← orE_assoc]; exact hX2.n1)⟩

set_option maxHeartbeats 3200000 in
set_option maxRecDepth 100000 in
theorem fe_two26 (t : RS) (R : Int → List Int → Option Ed) (ih : FIh t R) (n : Nat) (nu bi f1 f2 f3 : Int) (fs : List (Int × Int × Int)) (am : List (Int × Int)) (i : Int) (sg : List Int) (b : Ed) (he : expAt t i = some ⟨26, nu, bi, f1, f2, f3, fs, am⟩) (x y : Ed) (hx : R f1 sg = some x) (hy : R f2 sg = some y) (hb : b = orE x y) : FCt t i sg b := by
  intro q root E P B cE S M bad w hd
  obtain ⟨⟨c0, -, -, -, -, -⟩, -⟩ := hd.cells
  have hq := hd.lt
  have hne := hd.ne
  obtain ⟨g, cap, m, vf, va, rfl, rfl, hm, hg, hea, ⟨hmf, hma⟩, d0, d1, d2, d3, d4, d5, d6, d7⟩ := hd.ex he
  have Hof : Hid (∀ b, vf.ownBlock = some b → b < q) := fun b hb => hd.old b (.inr (.inr (.inr ⟨vf, hmf, hb⟩)))
  have Hoa : Hid (∀ b, va.ownBlock = some b → b < q) := fun b hb => hd.old b (.inr (.inr (.inr ⟨va, hma, hb⟩)))
  have Hrf : Hid (w.ownsRow 0 165 3 vf fs.length (funCells fs)) := hea.f
  have Hra : Hid (w.ownsRow 0 264 2 va am.length (armCells am)) := hea.a
  obtain ⟨fa, fc, rfl⟩ := ownsRow_len hea.f
  obtain ⟨aa, ac, rfl⟩ := ownsRow_len hea.a
  generalize hW : w.alloc (.cells #[.int .i64 26, .int .i64 nu, .int .i64 bi, .int .i64 f1, .int .i64 f2, .int .i64 f3, .slice fa fs.length fc, .slice aa am.length ac] 162) = W
  have hFW : Fr (fun _ => False) w W := by rw [← hW]; exact (Fr.refl _ w).alloc _
  have hX0 := Fx.start (hd.fr hFW)
  have hl : ¬ fown q S M w.heap.size := fun h' => by have := (hd.own_ge _ h').2; omega
  have hbl : W.heap[w.heap.size]? = some (.cells #[.int .i64 26, .int .i64 nu, .int .i64 bi, .int .i64 f1, .int .i64 f2, .int .i64 f3, .slice fa fs.length fc, .slice aa am.length ac] 162 (0, 0)) := by rw [← hW]; exact blk_new w _
  have HFW : Hid (Fr (fun _ => False) w W) := hFW
  have HL : Hid (∀ w' S' M' sg' bad', Fx q t root (.slice (some ⟨g, 0, none⟩) t.exps.length cap) P B cE W S M w' S' M' sg' bad' → w'.heap[w.heap.size]? = some (.cells #[.int .i64 26, .int .i64 nu, .int .i64 bi, .int .i64 f1, .int .i64 f2, .int .i64 f3, .slice fa fs.length fc, .slice aa am.length ac] 162 (0, 0))) := fun w' S' M' sg' bad' hx => hx.blk hl hbl
  obtain ⟨m0, m1, m2, m3, m4, m5, m6, m7⟩ := cells8 hbl
  have Hb : Hid (b = orE x y) := hb
  clear hb
  clear hd hea hmf hma hl hbl hFW he
  go_enter Tryz.func71, Tryz.ntmps71
  go_wp2_with fail
  refine (hX0.exp (ih _ _ _ hx)).mono ?_
  rintro r w1 ⟨rfl, S1, M1, hX1, -, -⟩
  clear hX0 hW m0 m1 m2 m3 m4 m5 m6 m7 d0 d1 d2 d3 d4 d5 d6 d7 c0
  have hbl1 := HL.out _ _ _ _ _ hX1
  obtain ⟨-, -, -, -, m4, -, -, -⟩ := cells8 hbl1
  clear hbl1
  go_wp2_with fail
  refine (hX1.exp (ih _ _ _ hy)).mono ?_
  rintro r w2 ⟨rfl, S2, M2, hX2, -, -⟩
  clear hX1 m4
  go_wp2_with fail
  go_end0
  exact ⟨rfl, Fn1.pre HFW.out (by rw [Hb.out, ← orE_assoc]; exact hX2.n1)⟩

set_option maxHeartbeats 3200000 in
set_option maxRecDepth 100000 in
theorem fe_three (t : RS) (R : Int → List Int → Option Ed) (ih : FIh t R) (n : Nat) (nu bi f1 f2 f3 : Int) (fs : List (Int × Int × Int)) (am : List (Int × Int)) (i : Int) (sg : List Int) (b : Ed) (he : expAt t i = some ⟨13, nu, bi, f1, f2, f3, fs, am⟩) (x y z : Ed) (hx : R f1 sg = some x) (hy : R f2 sg = some y) (hz : R f3 sg = some z) (hb : b = orE (orE x y) z) : FCt t i sg b := by
  intro q root E P B cE S M bad w hd
  obtain ⟨⟨c0, -, -, -, -, -⟩, -⟩ := hd.cells
  have hq := hd.lt
  have hne := hd.ne
  obtain ⟨g, cap, m, vf, va, rfl, rfl, hm, hg, hea, ⟨hmf, hma⟩, d0, d1, d2, d3, d4, d5, d6, d7⟩ := hd.ex he
  have Hof : Hid (∀ b, vf.ownBlock = some b → b < q) := fun b hb => hd.old b (.inr (.inr (.inr ⟨vf, hmf, hb⟩)))
  have Hoa : Hid (∀ b, va.ownBlock = some b → b < q) := fun b hb => hd.old b (.inr (.inr (.inr ⟨va, hma, hb⟩)))
  have Hrf : Hid (w.ownsRow 0 165 3 vf fs.length (funCells fs)) := hea.f
  have Hra : Hid (w.ownsRow 0 264 2 va am.length (armCells am)) := hea.a
  obtain ⟨fa, fc, rfl⟩ := ownsRow_len hea.f
  obtain ⟨aa, ac, rfl⟩ := ownsRow_len hea.a
  generalize hW : w.alloc (.cells #[.int .i64 13, .int .i64 nu, .int .i64 bi, .int .i64 f1, .int .i64 f2, .int .i64 f3, .slice fa fs.length fc, .slice aa am.length ac] 162) = W
  have hFW : Fr (fun _ => False) w W := by rw [← hW]; exact (Fr.refl _ w).alloc _
  have hX0 := Fx.start (hd.fr hFW)
  have hl : ¬ fown q S M w.heap.size := fun h' => by have := (hd.own_ge _ h').2; omega
  have hbl : W.heap[w.heap.size]? = some (.cells #[.int .i64 13, .int .i64 nu, .int .i64 bi, .int .i64 f1, .int .i64 f2, .int .i64 f3, .slice fa fs.length fc, .slice aa am.length ac] 162 (0, 0)) := by rw [← hW]; exact blk_new w _
  have HFW : Hid (Fr (fun _ => False) w W) := hFW
  have HL : Hid (∀ w' S' M' sg' bad', Fx q t root (.slice (some ⟨g, 0, none⟩) t.exps.length cap) P B cE W S M w' S' M' sg' bad' → w'.heap[w.heap.size]? = some (.cells #[.int .i64 13, .int .i64 nu, .int .i64 bi, .int .i64 f1, .int .i64 f2, .int .i64 f3, .slice fa fs.length fc, .slice aa am.length ac] 162 (0, 0))) := fun w' S' M' sg' bad' hx => hx.blk hl hbl
  obtain ⟨m0, m1, m2, m3, m4, m5, m6, m7⟩ := cells8 hbl
  have Hb : Hid (b = orE (orE x y) z) := hb
  clear hb
  clear hd hea hmf hma hl hbl hFW he
  go_enter Tryz.func71, Tryz.ntmps71
  go_wp2_with fail
  refine (hX0.exp (ih _ _ _ hx)).mono ?_
  rintro r w1 ⟨rfl, S1, M1, hX1, -, -⟩
  clear hX0 hW m0 m1 m2 m3 m4 m5 m6 m7 d0 d1 d2 d3 d4 d5 d6 d7 c0
  have hbl1 := HL.out _ _ _ _ _ hX1
  obtain ⟨-, -, -, -, m4, -, -, -⟩ := cells8 hbl1
  clear hbl1
  go_wp2_with fail
  refine (hX1.exp (ih _ _ _ hy)).mono ?_
  rintro r w2 ⟨rfl, S2, M2, hX2, -, -⟩
  clear hX1 m4
  have hbl2 := HL.out _ _ _ _ _ hX2
  obtain ⟨-, -, -, -, -, m5, -, -⟩ := cells8 hbl2
  clear hbl2
  go_wp2_with fail
  refine (hX2.exp (ih _ _ _ hz)).mono ?_
  rintro r w3 ⟨rfl, S3, M3, hX3, -, -⟩
  clear hX2 m5
  go_wp2_with fail
  go_end0
  exact ⟨rfl, Fn1.pre HFW.out (by rw [Hb.out, ← orE_assoc, ← orE_assoc]; exact hX3.n1)⟩

set_option maxHeartbeats 3200000 in
set_option maxRecDepth 100000 in
theorem fe_fn (t : RS) (R : Int → List Int → Option Ed) (ih : FIh t R) (n : Nat) (nu bi f1 f2 f3 : Int) (fs : List (Int × Int × Int)) (am : List (Int × Int)) (i : Int) (sg : List Int) (b : Ed) (he : expAt t i = some ⟨12, nu, bi, f1, f2, f3, fs, am⟩) (h : gWithin t R bi f1 sg = some b) : FCt t i sg b := by
  intro q root E P B cE S M bad w hd
  obtain ⟨⟨c0, -, -, -, -, -⟩, -⟩ := hd.cells
  have hq := hd.lt
  have hne := hd.ne
  obtain ⟨g, cap, m, vf, va, rfl, rfl, hm, hg, hea, ⟨hmf, hma⟩, d0, d1, d2, d3, d4, d5, d6, d7⟩ := hd.ex he
  have Hof : Hid (∀ b, vf.ownBlock = some b → b < q) := fun b hb => hd.old b (.inr (.inr (.inr ⟨vf, hmf, hb⟩)))
  have Hoa : Hid (∀ b, va.ownBlock = some b → b < q) := fun b hb => hd.old b (.inr (.inr (.inr ⟨va, hma, hb⟩)))
  have Hrf : Hid (w.ownsRow 0 165 3 vf fs.length (funCells fs)) := hea.f
  have Hra : Hid (w.ownsRow 0 264 2 va am.length (armCells am)) := hea.a
  obtain ⟨fa, fc, rfl⟩ := ownsRow_len hea.f
  obtain ⟨aa, ac, rfl⟩ := ownsRow_len hea.a
  generalize hW : w.alloc (.cells #[.int .i64 12, .int .i64 nu, .int .i64 bi, .int .i64 f1, .int .i64 f2, .int .i64 f3, .slice fa fs.length fc, .slice aa am.length ac] 162) = W
  have hFW : Fr (fun _ => False) w W := by rw [← hW]; exact (Fr.refl _ w).alloc _
  have hX0 := Fx.start (hd.fr hFW)
  have hl : ¬ fown q S M w.heap.size := fun h' => by have := (hd.own_ge _ h').2; omega
  have hbl : W.heap[w.heap.size]? = some (.cells #[.int .i64 12, .int .i64 nu, .int .i64 bi, .int .i64 f1, .int .i64 f2, .int .i64 f3, .slice fa fs.length fc, .slice aa am.length ac] 162 (0, 0)) := by rw [← hW]; exact blk_new w _
  have HFW : Hid (Fr (fun _ => False) w W) := hFW
  have HL : Hid (∀ w' S' M' sg' bad', Fx q t root (.slice (some ⟨g, 0, none⟩) t.exps.length cap) P B cE W S M w' S' M' sg' bad' → w'.heap[w.heap.size]? = some (.cells #[.int .i64 12, .int .i64 nu, .int .i64 bi, .int .i64 f1, .int .i64 f2, .int .i64 f3, .slice fa fs.length fc, .slice aa am.length ac] 162 (0, 0))) := fun w' S' M' sg' bad' hx => hx.blk hl hbl
  obtain ⟨m0, m1, m2, m3, m4, m5, m6, m7⟩ := cells8 hbl
  clear hd hea hmf hma hl hbl hFW he
  go_enter Tryz.func71, Tryz.ntmps71
  go_wp2_with fail
  refine (hX0.within ih h).mono ?_
  rintro r w1 ⟨rfl, S1, M1, hX1, -, -⟩
  clear hX0 hW m0 m1 m2 m3 m4 m5 m6 m7 d0 d1 d2 d3 d4 d5 d6 d7 c0
  go_wp2_with fail
  go_end0
  exact ⟨rfl, Fn1.pre HFW.out hX1.n1⟩

set_option maxHeartbeats 3200000 in
set_option maxRecDepth 100000 in
theorem fe_let10 (t : RS) (R : Int → List Int → Option Ed) (ih : FIh t R) (n : Nat) (nu bi f1 f2 f3 : Int) (fs : List (Int × Int × Int)) (am : List (Int × Int)) (i : Int) (sg : List Int) (b : Ed) (he : expAt t i = some ⟨10, nu, bi, f1, f2, f3, fs, am⟩) (x y : Ed) (hx : R f1 sg = some x) (hy : gWithin t R bi f2 sg = some y) (hb : b = orE x y) : FCt t i sg b := by
  intro q root E P B cE S M bad w hd
  obtain ⟨⟨c0, -, -, -, -, -⟩, -⟩ := hd.cells
  have hq := hd.lt
  have hne := hd.ne
  obtain ⟨g, cap, m, vf, va, rfl, rfl, hm, hg, hea, ⟨hmf, hma⟩, d0, d1, d2, d3, d4, d5, d6, d7⟩ := hd.ex he
  have Hof : Hid (∀ b, vf.ownBlock = some b → b < q) := fun b hb => hd.old b (.inr (.inr (.inr ⟨vf, hmf, hb⟩)))
  have Hoa : Hid (∀ b, va.ownBlock = some b → b < q) := fun b hb => hd.old b (.inr (.inr (.inr ⟨va, hma, hb⟩)))
  have Hrf : Hid (w.ownsRow 0 165 3 vf fs.length (funCells fs)) := hea.f
  have Hra : Hid (w.ownsRow 0 264 2 va am.length (armCells am)) := hea.a
  obtain ⟨fa, fc, rfl⟩ := ownsRow_len hea.f
  obtain ⟨aa, ac, rfl⟩ := ownsRow_len hea.a
  generalize hW : w.alloc (.cells #[.int .i64 10, .int .i64 nu, .int .i64 bi, .int .i64 f1, .int .i64 f2, .int .i64 f3, .slice fa fs.length fc, .slice aa am.length ac] 162) = W
  have hFW : Fr (fun _ => False) w W := by rw [← hW]; exact (Fr.refl _ w).alloc _
  have hX0 := Fx.start (hd.fr hFW)
  have hl : ¬ fown q S M w.heap.size := fun h' => by have := (hd.own_ge _ h').2; omega
  have hbl : W.heap[w.heap.size]? = some (.cells #[.int .i64 10, .int .i64 nu, .int .i64 bi, .int .i64 f1, .int .i64 f2, .int .i64 f3, .slice fa fs.length fc, .slice aa am.length ac] 162 (0, 0)) := by rw [← hW]; exact blk_new w _
  have HFW : Hid (Fr (fun _ => False) w W) := hFW
  have HL : Hid (∀ w' S' M' sg' bad', Fx q t root (.slice (some ⟨g, 0, none⟩) t.exps.length cap) P B cE W S M w' S' M' sg' bad' → w'.heap[w.heap.size]? = some (.cells #[.int .i64 10, .int .i64 nu, .int .i64 bi, .int .i64 f1, .int .i64 f2, .int .i64 f3, .slice fa fs.length fc, .slice aa am.length ac] 162 (0, 0))) := fun w' S' M' sg' bad' hx => hx.blk hl hbl
  obtain ⟨m0, m1, m2, m3, m4, m5, m6, m7⟩ := cells8 hbl
  have Hb : Hid (b = orE x y) := hb
  clear hb
  clear hd hea hmf hma hl hbl hFW he
  go_enter Tryz.func71, Tryz.ntmps71
  go_wp2_with fail
  refine (hX0.exp (ih _ _ _ hx)).mono ?_
  rintro r w1 ⟨rfl, S1, M1, hX1, -, -⟩
  clear hX0 hW m0 m1 m2 m3 m4 m5 m6 m7 d0 d1 d2 d3 d4 d5 d6 d7 c0
  have hbl1 := HL.out _ _ _ _ _ hX1
  obtain ⟨-, -, m2, -, m4, -, -, -⟩ := cells8 hbl1
  clear hbl1
  go_wp2_with fail
  refine (hX1.within ih hy).mono ?_
  rintro r w2 ⟨rfl, S2, M2, hX2, -, -⟩
  clear hX1 m2 m4
  go_wp2_with fail
  go_end0
  exact ⟨rfl, Fn1.pre HFW.out (by rw [Hb.out, ← orE_assoc]; exact hX2.n1)⟩

set_option maxHeartbeats 3200000 in
set_option maxRecDepth 100000 in
theorem fe_let15 (t : RS) (R : Int → List Int → Option Ed) (ih : FIh t R) (n : Nat) (nu bi f1 f2 f3 : Int) (fs : List (Int × Int × Int)) (am : List (Int × Int)) (i : Int) (sg : List Int) (b : Ed) (he : expAt t i = some ⟨15, nu, bi, f1, f2, f3, fs, am⟩) (x y : Ed) (hx : R f1 sg = some x) (hy : gWithin t R bi f2 sg = some y) (hb : b = orE x y) : FCt t i sg b := by
  intro q root E P B cE S M bad w hd
  obtain ⟨⟨c0, -, -, -, -, -⟩, -⟩ := hd.cells
  have hq := hd.lt
  have hne := hd.ne
  obtain ⟨g, cap, m, vf, va, rfl, rfl, hm, hg, hea, ⟨hmf, hma⟩, d0, d1, d2, d3, d4, d5, d6, d7⟩ := hd.ex he
  have Hof : Hid (∀ b, vf.ownBlock = some b → b < q) := fun b hb => hd.old b (.inr (.inr (.inr ⟨vf, hmf, hb⟩)))
  have Hoa : Hid (∀ b, va.ownBlock = some b → b < q) := fun b hb => hd.old b (.inr (.inr (.inr ⟨va, hma, hb⟩)))
  have Hrf : Hid (w.ownsRow 0 165 3 vf fs.length (funCells fs)) := hea.f
  have Hra : Hid (w.ownsRow 0 264 2 va am.length (armCells am)) := hea.a
  obtain ⟨fa, fc, rfl⟩ := ownsRow_len hea.f
  obtain ⟨aa, ac, rfl⟩ := ownsRow_len hea.a
  generalize hW : w.alloc (.cells #[.int .i64 15, .int .i64 nu, .int .i64 bi, .int .i64 f1, .int .i64 f2, .int .i64 f3, .slice fa fs.length fc, .slice aa am.length ac] 162) = W
  have hFW : Fr (fun _ => False) w W := by rw [← hW]; exact (Fr.refl _ w).alloc _
  have hX0 := Fx.start (hd.fr hFW)
  have hl : ¬ fown q S M w.heap.size := fun h' => by have := (hd.own_ge _ h').2; omega
  have hbl : W.heap[w.heap.size]? = some (.cells #[.int .i64 15, .int .i64 nu, .int .i64 bi, .int .i64 f1, .int .i64 f2, .int .i64 f3, .slice fa fs.length fc, .slice aa am.length ac] 162 (0, 0)) := by rw [← hW]; exact blk_new w _
  have HFW : Hid (Fr (fun _ => False) w W) := hFW
  have HL : Hid (∀ w' S' M' sg' bad', Fx q t root (.slice (some ⟨g, 0, none⟩) t.exps.length cap) P B cE W S M w' S' M' sg' bad' → w'.heap[w.heap.size]? = some (.cells #[.int .i64 15, .int .i64 nu, .int .i64 bi, .int .i64 f1, .int .i64 f2, .int .i64 f3, .slice fa fs.length fc, .slice aa am.length ac] 162 (0, 0))) := fun w' S' M' sg' bad' hx => hx.blk hl hbl
  obtain ⟨m0, m1, m2, m3, m4, m5, m6, m7⟩ := cells8 hbl
  have Hb : Hid (b = orE x y) := hb
  clear hb
  clear hd hea hmf hma hl hbl hFW he
  go_enter Tryz.func71, Tryz.ntmps71
  go_wp2_with fail
  refine (hX0.exp (ih _ _ _ hx)).mono ?_
  rintro r w1 ⟨rfl, S1, M1, hX1, -, -⟩
  clear hX0 hW m0 m1 m2 m3 m4 m5 m6 m7 d0 d1 d2 d3 d4 d5 d6 d7 c0
  have hbl1 := HL.out _ _ _ _ _ hX1
  obtain ⟨-, -, m2, -, m4, -, -, -⟩ := cells8 hbl1
  clear hbl1
  go_wp2_with fail
  refine (hX1.within ih hy).mono ?_
  rintro r w2 ⟨rfl, S2, M2, hX2, -, -⟩
  clear hX1 m2 m4
  go_wp2_with fail
  go_end0
  exact ⟨rfl, Fn1.pre HFW.out (by rw [Hb.out, ← orE_assoc]; exact hX2.n1)⟩

set_option maxHeartbeats 3200000 in
set_option maxRecDepth 100000 in
theorem fe_letRec (t : RS) (R : Int → List Int → Option Ed) (ih : FIh t R) (n : Nat) (nu bi f1 f2 f3 : Int) (fs : List (Int × Int × Int)) (am : List (Int × Int)) (i : Int) (sg : List Int) (b : Ed) (he : expAt t i = some ⟨11, nu, bi, f1, f2, f3, fs, am⟩) (h : gLetRec t R ⟨11, nu, bi, f1, f2, f3, fs, am⟩ sg = some b) : FCt t i sg b := by
  intro q root E P B cE S M bad w hd
  obtain ⟨⟨c0, -, -, -, -, -⟩, -⟩ := hd.cells
  have hq := hd.lt
  have hne := hd.ne
  obtain ⟨g, cap, m, vf, va, rfl, rfl, hm, hg, hea, ⟨hmf, hma⟩, d0, d1, d2, d3, d4, d5, d6, d7⟩ := hd.ex he
  have Hof : Hid (∀ b, vf.ownBlock = some b → b < q) := fun b hb => hd.old b (.inr (.inr (.inr ⟨vf, hmf, hb⟩)))
  have Hoa : Hid (∀ b, va.ownBlock = some b → b < q) := fun b hb => hd.old b (.inr (.inr (.inr ⟨va, hma, hb⟩)))
  have Hrf : Hid (w.ownsRow 0 165 3 vf fs.length (funCells fs)) := hea.f
  have Hra : Hid (w.ownsRow 0 264 2 va am.length (armCells am)) := hea.a
  obtain ⟨fa, fc, rfl⟩ := ownsRow_len hea.f
  obtain ⟨aa, ac, rfl⟩ := ownsRow_len hea.a
  generalize hW : w.alloc (.cells #[.int .i64 11, .int .i64 nu, .int .i64 bi, .int .i64 f1, .int .i64 f2, .int .i64 f3, .slice fa fs.length fc, .slice aa am.length ac] 162) = W
  have hFW : Fr (fun _ => False) w W := by rw [← hW]; exact (Fr.refl _ w).alloc _
  have hX0 := Fx.start (hd.fr hFW)
  have hl : ¬ fown q S M w.heap.size := fun h' => by have := (hd.own_ge _ h').2; omega
  have hbl : W.heap[w.heap.size]? = some (.cells #[.int .i64 11, .int .i64 nu, .int .i64 bi, .int .i64 f1, .int .i64 f2, .int .i64 f3, .slice fa fs.length fc, .slice aa am.length ac] 162 (0, 0)) := by rw [← hW]; exact blk_new w _
  have HFW : Hid (Fr (fun _ => False) w W) := hFW
  have HL : Hid (∀ w' S' M' sg' bad', Fx q t root (.slice (some ⟨g, 0, none⟩) t.exps.length cap) P B cE W S M w' S' M' sg' bad' → w'.heap[w.heap.size]? = some (.cells #[.int .i64 11, .int .i64 nu, .int .i64 bi, .int .i64 f1, .int .i64 f2, .int .i64 f3, .slice fa fs.length fc, .slice aa am.length ac] 162 (0, 0))) := fun w' S' M' sg' bad' hx => hx.blk hl hbl
  obtain ⟨m0, m1, m2, m3, m4, m5, m6, m7⟩ := cells8 hbl
  clear hd hea hmf hma hl hbl hFW he
  have Hrf' : Hid (W.ownsRow 0 165 3 (.slice fa fs.length fc) fs.length (funCells fs)) := ownsRow_block Hrf.out fun b hb => HFW.out.block b (Hrf.out.lt b hb).2 id
  have Hra' : Hid (W.ownsRow 0 264 2 (.slice aa am.length ac) am.length (armCells am)) := ownsRow_block Hra.out fun b hb => HFW.out.block b (Hra.out.lt b hb).2 id
  go_enter Tryz.func71, Tryz.ntmps71
  go_wp2_with fail
  refine (fletRec_any t R ih ⟨11, nu, bi, f1, f2, f3, fs, am⟩ sg b h q root _ P B cE S M bad W hX0.1 _ _ Hrf'.out Hof.out ⟨_, _, _, rfl⟩).mono ?_
  rintro r w1 ⟨rfl, hN⟩
  go_wp2_with fail
  go_end0
  exact ⟨rfl, Fn1.pre HFW.out hN⟩

set_option maxHeartbeats 3200000 in
set_option maxRecDepth 100000 in
theorem fe_match (t : RS) (R : Int → List Int → Option Ed) (ih : FIh t R) (n : Nat) (nu bi f1 f2 f3 : Int) (fs : List (Int × Int × Int)) (am : List (Int × Int)) (i : Int) (sg : List Int) (b : Ed) (he : expAt t i = some ⟨14, nu, bi, f1, f2, f3, fs, am⟩) (h : gMatch t R n ⟨14, nu, bi, f1, f2, f3, fs, am⟩ sg = some b) : FCt t i sg b := by
  intro q root E P B cE S M bad w hd
  obtain ⟨⟨c0, -, -, -, -, -⟩, -⟩ := hd.cells
  have hq := hd.lt
  have hne := hd.ne
  obtain ⟨g, cap, m, vf, va, rfl, rfl, hm, hg, hea, ⟨hmf, hma⟩, d0, d1, d2, d3, d4, d5, d6, d7⟩ := hd.ex he
  have Hof : Hid (∀ b, vf.ownBlock = some b → b < q) := fun b hb => hd.old b (.inr (.inr (.inr ⟨vf, hmf, hb⟩)))
  have Hoa : Hid (∀ b, va.ownBlock = some b → b < q) := fun b hb => hd.old b (.inr (.inr (.inr ⟨va, hma, hb⟩)))
  have Hrf : Hid (w.ownsRow 0 165 3 vf fs.length (funCells fs)) := hea.f
  have Hra : Hid (w.ownsRow 0 264 2 va am.length (armCells am)) := hea.a
  obtain ⟨fa, fc, rfl⟩ := ownsRow_len hea.f
  obtain ⟨aa, ac, rfl⟩ := ownsRow_len hea.a
  generalize hW : w.alloc (.cells #[.int .i64 14, .int .i64 nu, .int .i64 bi, .int .i64 f1, .int .i64 f2, .int .i64 f3, .slice fa fs.length fc, .slice aa am.length ac] 162) = W
  have hFW : Fr (fun _ => False) w W := by rw [← hW]; exact (Fr.refl _ w).alloc _
  have hX0 := Fx.start (hd.fr hFW)
  have hl : ¬ fown q S M w.heap.size := fun h' => by have := (hd.own_ge _ h').2; omega
  have hbl : W.heap[w.heap.size]? = some (.cells #[.int .i64 14, .int .i64 nu, .int .i64 bi, .int .i64 f1, .int .i64 f2, .int .i64 f3, .slice fa fs.length fc, .slice aa am.length ac] 162 (0, 0)) := by rw [← hW]; exact blk_new w _
  have HFW : Hid (Fr (fun _ => False) w W) := hFW
  have HL : Hid (∀ w' S' M' sg' bad', Fx q t root (.slice (some ⟨g, 0, none⟩) t.exps.length cap) P B cE W S M w' S' M' sg' bad' → w'.heap[w.heap.size]? = some (.cells #[.int .i64 14, .int .i64 nu, .int .i64 bi, .int .i64 f1, .int .i64 f2, .int .i64 f3, .slice fa fs.length fc, .slice aa am.length ac] 162 (0, 0))) := fun w' S' M' sg' bad' hx => hx.blk hl hbl
  obtain ⟨m0, m1, m2, m3, m4, m5, m6, m7⟩ := cells8 hbl
  clear hd hea hmf hma hl hbl hFW he
  have Hrf' : Hid (W.ownsRow 0 165 3 (.slice fa fs.length fc) fs.length (funCells fs)) := ownsRow_block Hrf.out fun b hb => HFW.out.block b (Hrf.out.lt b hb).2 id
  have Hra' : Hid (W.ownsRow 0 264 2 (.slice aa am.length ac) am.length (armCells am)) := ownsRow_block Hra.out fun b hb => HFW.out.block b (Hra.out.lt b hb).2 id
  go_enter Tryz.func71, Tryz.ntmps71
  go_wp2_with fail
  refine (fmatch_any t R ih n ⟨14, nu, bi, f1, f2, f3, fs, am⟩ sg b h q root _ P B cE S M bad W hX0.1 _ _ Hra'.out Hoa.out ⟨_, _, _, rfl⟩).mono ?_
  rintro r w1 ⟨rfl, hN⟩
  go_wp2_with fail
  go_end0
  exact ⟨rfl, Fn1.pre HFW.out hN⟩

set_option maxHeartbeats 3200000 in
set_option maxRecDepth 100000 in
theorem fe_name (t : RS) (R : Int → List Int → Option Ed) (ih : FIh t R) (n : Nat) (nu bi f1 f2 f3 : Int) (fs : List (Int × Int × Int)) (am : List (Int × Int)) (i : Int) (sg : List Int) (b : Ed) (he : expAt t i = some ⟨4, nu, bi, f1, f2, f3, fs, am⟩) (hb : b = (fInner t sg nu, [(i.toNat, mInner t sg.reverse nu)])) : FCt t i sg b := by
  intro q root E P B cE S M bad w hd
  obtain ⟨⟨c0, -, -, -, -, -⟩, -⟩ := hd.cells
  have hq := hd.lt
  have hne := hd.ne
  obtain ⟨g, cap, m, vf, va, rfl, rfl, hm, hg, hea, ⟨hmf, hma⟩, d0, d1, d2, d3, d4, d5, d6, d7⟩ := hd.ex he
  have Hof : Hid (∀ b, vf.ownBlock = some b → b < q) := fun b hb => hd.old b (.inr (.inr (.inr ⟨vf, hmf, hb⟩)))
  have Hoa : Hid (∀ b, va.ownBlock = some b → b < q) := fun b hb => hd.old b (.inr (.inr (.inr ⟨va, hma, hb⟩)))
  have Hrf : Hid (w.ownsRow 0 165 3 vf fs.length (funCells fs)) := hea.f
  have Hra : Hid (w.ownsRow 0 264 2 va am.length (armCells am)) := hea.a
  obtain ⟨fa, fc, rfl⟩ := ownsRow_len hea.f
  obtain ⟨aa, ac, rfl⟩ := ownsRow_len hea.a
  generalize hW : w.alloc (.cells #[.int .i64 4, .int .i64 nu, .int .i64 bi, .int .i64 f1, .int .i64 f2, .int .i64 f3, .slice fa fs.length fc, .slice aa am.length ac] 162) = W
  have hFW : Fr (fun _ => False) w W := by rw [← hW]; exact (Fr.refl _ w).alloc _
  have hX0 := Fx.start (hd.fr hFW)
  have hl : ¬ fown q S M w.heap.size := fun h' => by have := (hd.own_ge _ h').2; omega
  have hbl : W.heap[w.heap.size]? = some (.cells #[.int .i64 4, .int .i64 nu, .int .i64 bi, .int .i64 f1, .int .i64 f2, .int .i64 f3, .slice fa fs.length fc, .slice aa am.length ac] 162 (0, 0)) := by rw [← hW]; exact blk_new w _
  have HFW : Hid (Fr (fun _ => False) w W) := hFW
  have HL : Hid (∀ w' S' M' sg' bad', Fx q t root (.slice (some ⟨g, 0, none⟩) t.exps.length cap) P B cE W S M w' S' M' sg' bad' → w'.heap[w.heap.size]? = some (.cells #[.int .i64 4, .int .i64 nu, .int .i64 bi, .int .i64 f1, .int .i64 f2, .int .i64 f3, .slice fa fs.length fc, .slice aa am.length ac] 162 (0, 0))) := fun w' S' M' sg' bad' hx => hx.blk hl hbl
  obtain ⟨m0, m1, m2, m3, m4, m5, m6, m7⟩ := cells8 hbl
  have Hb : Hid (b = (fInner t sg nu, [(m, mInner t sg.reverse nu)])) := by show b = _; simpa using hb
  clear hb
  clear hd hea hmf hma hl hbl hFW he
  go_enter Tryz.func71, Tryz.ntmps71
  go_wp2_with fail
  refine (hX0.inner nu).mono ?_
  rintro r w1 ⟨rfl, S1, M1, hX1, -, -⟩
  generalize mInner t sg.reverse nu = rv at *
  clear hX0 hW m0 m1 m2 m3 m4 m5 m6 m7 d0 d1 d2 d3 d4 d5 d6 d7 c0
  obtain ⟨⟨-, -, -, -, c5, -⟩, -⟩ := hX1.1.cells
  obtain ⟨mb, mc, rfl, hmb, ⟨v0, hv0⟩, hfz, hX2⟩ := hX1.means hm rv
  have HX2 : Hid (Fx q t root (.slice (some ⟨g, 0, none⟩) t.exps.length cap) P B cE W S M (w1.setCell ⟨mb, m, none⟩ (.int .i64 rv)) S1 (.slice (some ⟨mb, 0, none⟩) t.exps.length mc) sg (orE (orE bad (fInner t sg nu, [])) (false, [(m, rv)]))) := hX2
  clear hX2 hX1 HL
  go_wp2_with fail
  go_end0
  exact ⟨rfl, Fn1.pre HFW.out (by rw [Hb.out]; have := HX2.out.n1; simpa [orE] using this)⟩

set_option maxHeartbeats 3200000 in
set_option maxRecDepth 100000 in
theorem fe_none (t : RS) (R : Int → List Int → Option Ed) (ih : FIh t R) (n : Nat) (k : Int) (nu bi f1 f2 f3 : Int) (fs : List (Int × Int × Int)) (am : List (Int × Int)) (i : Int) (sg : List Int) (b : Ed) (he : expAt t i = some ⟨k, nu, bi, f1, f2, f3, fs, am⟩) (hb : b = noE) (n4 : ¬ k = 4) (n22 : ¬ k = 22) (n23 : ¬ k = 23) (n24 : ¬ k = 24) (n7 : ¬ k = 7) (n8 : ¬ k = 8) (n16 : ¬ k = 16) (n17 : ¬ k = 17) (n18 : ¬ k = 18) (n19 : ¬ k = 19) (n20 : ¬ k = 20) (n21 : ¬ k = 21) (n25 : ¬ k = 25) (n26 : ¬ k = 26) (n13 : ¬ k = 13) (n12 : ¬ k = 12) (n10 : ¬ k = 10) (n15 : ¬ k = 15) (n11 : ¬ k = 11) (n14 : ¬ k = 14) : FCt t i sg b := by
  intro q root E P B cE S M bad w hd
  obtain ⟨⟨c0, -, -, -, -, -⟩, -⟩ := hd.cells
  have hq := hd.lt
  have hne := hd.ne
  obtain ⟨g, cap, m, vf, va, rfl, rfl, hm, hg, hea, ⟨hmf, hma⟩, d0, d1, d2, d3, d4, d5, d6, d7⟩ := hd.ex he
  have Hof : Hid (∀ b, vf.ownBlock = some b → b < q) := fun b hb => hd.old b (.inr (.inr (.inr ⟨vf, hmf, hb⟩)))
  have Hoa : Hid (∀ b, va.ownBlock = some b → b < q) := fun b hb => hd.old b (.inr (.inr (.inr ⟨va, hma, hb⟩)))
  have Hrf : Hid (w.ownsRow 0 165 3 vf fs.length (funCells fs)) := hea.f
  have Hra : Hid (w.ownsRow 0 264 2 va am.length (armCells am)) := hea.a
  obtain ⟨fa, fc, rfl⟩ := ownsRow_len hea.f
  obtain ⟨aa, ac, rfl⟩ := ownsRow_len hea.a
  generalize hW : w.alloc (.cells #[.int .i64 k, .int .i64 nu, .int .i64 bi, .int .i64 f1, .int .i64 f2, .int .i64 f3, .slice fa fs.length fc, .slice aa am.length ac] 162) = W
  have hFW : Fr (fun _ => False) w W := by rw [← hW]; exact (Fr.refl _ w).alloc _
  have hX0 := Fx.start (hd.fr hFW)
  have hl : ¬ fown q S M w.heap.size := fun h' => by have := (hd.own_ge _ h').2; omega
  have hbl : W.heap[w.heap.size]? = some (.cells #[.int .i64 k, .int .i64 nu, .int .i64 bi, .int .i64 f1, .int .i64 f2, .int .i64 f3, .slice fa fs.length fc, .slice aa am.length ac] 162 (0, 0)) := by rw [← hW]; exact blk_new w _
  have HFW : Hid (Fr (fun _ => False) w W) := hFW
  have HL : Hid (∀ w' S' M' sg' bad', Fx q t root (.slice (some ⟨g, 0, none⟩) t.exps.length cap) P B cE W S M w' S' M' sg' bad' → w'.heap[w.heap.size]? = some (.cells #[.int .i64 k, .int .i64 nu, .int .i64 bi, .int .i64 f1, .int .i64 f2, .int .i64 f3, .slice fa fs.length fc, .slice aa am.length ac] 162 (0, 0))) := fun w' S' M' sg' bad' hx => hx.blk hl hbl
  obtain ⟨m0, m1, m2, m3, m4, m5, m6, m7⟩ := cells8 hbl
  have Hb : Hid (b = noE) := hb
  clear hb
  clear hd hea hmf hma hl hbl hFW he
  go_enter Tryz.func71, Tryz.ntmps71
  go_wp2_with fail
  go_end0
  exact ⟨rfl, Fn1.pre HFW.out (by rw [Hb.out, orE_no]; exact hX0.n1)⟩

end Go.Proofs.YtklimomeendajaaGreatDoor

namespace Go.Proofs.YtklimomeendajaaGreatDoor
open Go.RowKit

theorem fexp_ih (t : RS) : ∀ n, FIh t (gExp t n)
  | 0 => fun _ _ _ h => by simp [gExp] at h
  | n + 1 => by
    have ih := fexp_ih t n
    intro i sg b h
    unfold gExp at h
    obtain ⟨e, he, h⟩ := Option.bind_eq_some_iff.1 h
    obtain ⟨k, nu, bi, f1, f2, f3, fs, am⟩ := e
    unfold gE at h
    simp only at h
    split at h
    · rename_i hk; subst hk; exact fe_name t _ ih n nu bi f1 f2 f3 fs am i sg b he (by simpa using h.symm)
    rename_i n4
    split at h
    · rename_i hk
      rcases hk with rfl | rfl | rfl
      · exact fe_one22 t _ ih n nu bi f1 f2 f3 fs am i sg b he h
      · exact fe_one23 t _ ih n nu bi f1 f2 f3 fs am i sg b he h
      · exact fe_one24 t _ ih n nu bi f1 f2 f3 fs am i sg b he h
    rename_i n22
    split at h
    · rename_i hk
      obtain ⟨x, hx, h⟩ := Option.bind_eq_some_iff.1 h
      obtain ⟨y, hy, h⟩ := Option.bind_eq_some_iff.1 h
      have hb : b = orE x y := by simpa using h.symm
      simp only [two, Bool.or_eq_true, beq_iff_eq] at hk
      rcases hk with ((((((((rfl | rfl) | rfl) | rfl) | rfl) | rfl) | rfl) | rfl) | rfl) | rfl
      · exact fe_two7 t _ ih n nu bi f1 f2 f3 fs am i sg b he x y hx hy hb
      · exact fe_two8 t _ ih n nu bi f1 f2 f3 fs am i sg b he x y hx hy hb
      · exact fe_two16 t _ ih n nu bi f1 f2 f3 fs am i sg b he x y hx hy hb
      · exact fe_two17 t _ ih n nu bi f1 f2 f3 fs am i sg b he x y hx hy hb
      · exact fe_two18 t _ ih n nu bi f1 f2 f3 fs am i sg b he x y hx hy hb
      · exact fe_two19 t _ ih n nu bi f1 f2 f3 fs am i sg b he x y hx hy hb
      · exact fe_two20 t _ ih n nu bi f1 f2 f3 fs am i sg b he x y hx hy hb
      · exact fe_two21 t _ ih n nu bi f1 f2 f3 fs am i sg b he x y hx hy hb
      · exact fe_two25 t _ ih n nu bi f1 f2 f3 fs am i sg b he x y hx hy hb
      · exact fe_two26 t _ ih n nu bi f1 f2 f3 fs am i sg b he x y hx hy hb
    rename_i ntwo
    split at h
    · rename_i hk
      obtain ⟨x, hx, h⟩ := Option.bind_eq_some_iff.1 h
      obtain ⟨y, hy, h⟩ := Option.bind_eq_some_iff.1 h
      obtain ⟨z, hz, h⟩ := Option.bind_eq_some_iff.1 h
      subst hk
      exact fe_three t _ ih n nu bi f1 f2 f3 fs am i sg b he x y z hx hy hz (by simpa using h.symm)
    rename_i n13
    split at h
    · rename_i hk; subst hk; exact fe_fn t _ ih n nu bi f1 f2 f3 fs am i sg b he h
    rename_i n12
    split at h
    · rename_i hk
      obtain ⟨x, hx, h⟩ := Option.bind_eq_some_iff.1 h
      obtain ⟨y, hy, h⟩ := Option.bind_eq_some_iff.1 h
      have hb : b = orE x y := by simpa using h.symm
      rcases hk with rfl | rfl
      · exact fe_let10 t _ ih n nu bi f1 f2 f3 fs am i sg b he x y hx hy hb
      · exact fe_let15 t _ ih n nu bi f1 f2 f3 fs am i sg b he x y hx hy hb
    rename_i n10
    split at h
    · rename_i hk; subst hk; exact fe_letRec t _ ih n nu bi f1 f2 f3 fs am i sg b he h
    rename_i n11
    split at h
    · rename_i hk; subst hk; exact fe_match t _ ih n nu bi f1 f2 f3 fs am i sg b he h
    rename_i n14
    have hb : b = noE := by simpa using h.symm
    simp only [two, Bool.or_eq_true, beq_iff_eq, not_or] at ntwo n22 n10
    exact fe_none t _ ih n k nu bi f1 f2 f3 fs am i sg b he hb n4 n22.1 n22.2.1 n22.2.2 ntwo.1.1.1.1.1.1.1.1.1 ntwo.1.1.1.1.1.1.1.1.2 ntwo.1.1.1.1.1.1.1.2 ntwo.1.1.1.1.1.1.2 ntwo.1.1.1.1.1.2 ntwo.1.1.1.1.2 ntwo.1.1.1.2 ntwo.1.1.2 ntwo.1.2 ntwo.2 n13 n12 n10.1 n10.2 n11 n14

end Go.Proofs.YtklimomeendajaaGreatDoor

namespace Go.Proofs.YtklimomeendajaaGreatDoor
open Go.RowKit

theorem cells7 {w : World} {l : Nat} {a b c d e f g : Value} {t : TypeId} (h : w.heap[l]? = some (.cells #[a, b, c, d, e, f, g] t (0, 0))) :
    (w.cell? ⟨l, 0, none⟩ = some a ∧ w.cell? ⟨l, 1, none⟩ = some b ∧ w.cell? ⟨l, 2, none⟩ = some c ∧ w.cell? ⟨l, 3, none⟩ = some d ∧ w.cell? ⟨l, 4, none⟩ = some e ∧ w.cell? ⟨l, 5, none⟩ = some f ∧ w.cell? ⟨l, 6, none⟩ = some g) ∧ ∀ i, w.frozen? ⟨l, i, none⟩ = false := by
  simp [World.cell?, World.frozen?, h]

set_option maxHeartbeats 3200000 in
set_option maxRecDepth 100000 in
theorem find_any (t : RS) (n : Nat) (root : Int) (b : Ed) (hb : gExp t n root [] = some b) (E P B : Value) (cE : List Value) (w : World) (ht : Tr w t E P B cE) (hne : t.exps.length ≤ 200000) (hnb : t.bnds.length ≤ 200000) :
    Calls Tryz.prog 39 #[.agg #[E, P, .int .i64 root, B]] w fun e w' => Fr (fun _ => False) w w' ∧ ∃ v, e = .returned (.tuple #[v, .bool (!b.1)]) ∧ (b.1 = false → w'.ownsRow w.heap.size 3 1 v t.exps.length ((apE b.2 (t.exps.map fun _ => -1)).map (.int .i64))) := by
  obtain ⟨ea, ec, rfl⟩ := ownsRow_len ht.e
  obtain ⟨pa, pc, rfl⟩ := ownsRow_len ht.p
  obtain ⟨ba, bc, rfl⟩ := ownsRow_len ht.b
  have HC : Hid (FCt t root [] b) := fexp_ih t n root [] b hb
  have HT : Hid (Tr w t (.slice ea t.exps.length ec) (.slice pa t.pats.length pc) (.slice ba t.bnds.length bc) cE) := ht
  clear hb ht
  go_enter Tryz.func39, Tryz.ntmps39
  go_wp2_with fail
  go_loopg [5] t.exps.length (fun m i wr => ∃ (k : Nat) (M : Value), i = .int .i64 k ∧ k ≤ t.exps.length ∧ m = t.exps.length - k ∧ wr.heap[w.heap.size]? = some (.cells #[.slice ea t.exps.length ec, .slice pa t.pats.length pc, .int .i64 root, .slice ba t.bnds.length bc] 74 (0, 0)) ∧
    wr.heap[w.heap.size + 1]? = some (.cells #[.slice ea t.exps.length ec, .slice pa t.pats.length pc, .int .i64 root, .slice ba t.bnds.length bc, .slice none 0 0, M, .bool false] 147 (0, 0)) ∧
    wr.ownsRow (w.heap.size + 2) 3 1 M k ((List.replicate k (-1)).map (.int .i64)) ∧ Fr (fun _ => False) w wr)
  case atStart =>
    refine ⟨0, .slice none 0 0, rfl, Nat.zero_le _, rfl, ?_, ?_, World.ownsRow_nil _ _ _ _, (by repeat (first | with_reducible exact Fr.refl _ _ | (with_reducible refine Fr.drew ?_) | (with_reducible refine Fr.drewN ?_ _) | (with_reducible refine Fr.alloc ?_ _) | ((with_reducible refine Fr.setCell ?_ ?_ _); rotate_left; first | exact .inl rfl | exact .inr (Nat.le_refl _) | exact .inl (Nat.le_refl _) | (focus (left; simp; done)) | (focus (left; simp; omega)) | (focus (left; omega)) | (focus (right; simp; done)) | (focus (right; simp; omega)) | (focus (right; omega))) | exact Fr.refl _ _))⟩
    · rw [Below.heap_alloc _ _ _ (by simp)]; exact blk_new w _
    · have := blk_new (w.alloc (.cells #[.slice ea t.exps.length ec, .slice pa t.pats.length pc, .int .i64 root, .slice ba t.bnds.length bc] 74)) (.cells #[.slice ea t.exps.length ec, .slice pa t.pats.length pc, .int .i64 root, .slice ba t.bnds.length bc, .slice none 0 0, .slice none 0 0, .bool false] 147)
      simpa using this
  case round =>
    obtain ⟨k, M, rfl, hk, hm, hl, hq, hM, hF⟩ := hrel
    have HM : Hid (gk = t.exps.length - k) := hm
    clear hm
    obtain ⟨⟨l0, l1, l2, l3⟩, -⟩ := cells4 hl
    obtain ⟨⟨q0, q1, q2, q3, q4, q5, q6⟩, hf⟩ := cells7 hq
    have hll := blk_lt hl
    have hqq := blk_lt hq
    have HQ : Hid (wr.heap[w.heap.size + 1]? = some (.cells #[.slice ea t.exps.length ec, .slice pa t.pats.length pc, .int .i64 root, .slice ba t.bnds.length bc, .slice none 0 0, M, .bool false] 147 (0, 0))) := hq
    have HLL : Hid (wr.heap[w.heap.size]? = some (.cells #[.slice ea t.exps.length ec, .slice pa t.pats.length pc, .int .i64 root, .slice ba t.bnds.length bc] 74 (0, 0))) := hl
    have HF : Hid (Fr (fun _ => False) w wr) := hF
    have f5 := hf 5
    have HMr : Hid (∀ b, M.ownBlock = some b → w.heap.size + 1 + 1 ≤ b) := fun b hb => (hM.lt b hb).1
    obtain ⟨ma, mc, rfl⟩ := ownsRow_len hM
    clear hq hl hf hF
    by_cases hlt : k < t.exps.length
    · go_wp2_with (at_builtin; refine wpList_app slInt rfl (.tmp 16) (.tmp 17) rfl (w.heap.size + 2) k ((List.replicate k (-1)).map (.int .i64)) _ rfl (hM.alloc _) ⟨wr.heap.size, 0, none⟩ 1 1 [.int .i64 (-1)] rfl rfl ?c1 ?c2 (by decide) ?b1 ?b2 ?b3 ?grow)
      case c1 => intro j u hj; match j, hj with | 0, hj => simp at hj; subst hj; simp [Addr.add]
      case c2 => intro u hu; simp at hu; rcases hu with rfl; rfl
      case b1 => unfold maxLen; omega
      case b2 => omega
      case b3 => simp; omega
      case grow =>
        intro v' w3 hown hgrow hv g' cap hfm
        subst hfm
        obtain ⟨k5, g5⟩ := grown_at hqq (by exact ((Fr.refl _ wr).alloc _)) hgrow HMr.out 5
        rw [q5] at k5
        rw [f5] at g5
        have hb1 : w3.heap[w.heap.size + 1]? = wr.heap[w.heap.size + 1]? := (hgrow.block _ (by simp; omega) (fun e => by have := HMr.out _ e.symm; omega)).trans (Below.heap_alloc _ _ _ hqq)
        have hb0 : w3.heap[w.heap.size]? = wr.heap[w.heap.size]? := (hgrow.block _ (by simp; omega) (fun e => by have := HMr.out _ e.symm; omega)).trans (Below.heap_alloc _ _ _ hll)
        have HB : Hid ((w3.setCell ⟨w.heap.size + 1, 5, none⟩ (.slice (some ⟨g', 0, none⟩) (k + 1) cap)).heap[w.heap.size]? = some (.cells #[.slice ea t.exps.length ec, .slice pa t.pats.length pc, .int .i64 root, .slice ba t.bnds.length bc] 74 (0, 0))) := (Below.heap_setCell _ _ _ _ (by show w.heap.size ≠ w.heap.size + 1; omega)).trans (hb0.trans HLL.out)
        have HB1 : Hid ((w3.setCell ⟨w.heap.size + 1, 5, none⟩ (.slice (some ⟨g', 0, none⟩) (k + 1) cap)).heap[w.heap.size + 1]? = some (.cells #[.slice ea t.exps.length ec, .slice pa t.pats.length pc, .int .i64 root, .slice ba t.bnds.length bc, .slice none 0 0, .slice (some ⟨g', 0, none⟩) (k + 1) cap, .bool false] 147 (0, 0))) := blk_set (hb1.trans HQ.out) (by simp)
        have HO : Hid ((w3.setCell ⟨w.heap.size + 1, 5, none⟩ (.slice (some ⟨g', 0, none⟩) (k + 1) cap)).ownsRow (w.heap.size + 2) 3 1 (.slice (some ⟨g', 0, none⟩) (k + 1) cap) (k + 1) ((List.replicate (k + 1) (-1)).map (.int .i64))) := by
          have h1 := ownsRow_block (w' := w3.setCell ⟨w.heap.size + 1, 5, none⟩ (.slice (some ⟨g', 0, none⟩) (k + 1) cap)) hown fun b hb => Below.heap_setCell _ _ _ _ (by have := (hown.lt b hb).1; show b ≠ w.heap.size + 1; omega)
          have h2 : (List.replicate (k + 1) (-1 : Int)).map (Value.int .i64) = (List.replicate k (-1 : Int)).map (Value.int .i64) ++ [.int .i64 (-1)] := by rw [List.replicate_succ']; simp
          rw [h2, List.map_replicate]
          exact h1
        have HF3 : Hid (Fr (fun _ => False) w (w3.setCell ⟨w.heap.size + 1, 5, none⟩ (.slice (some ⟨g', 0, none⟩) (k + 1) cap))) := by
          refine Fr.setCell ((HF.out.alloc _).grown hgrow (fun b hb => .inr (by have := HMr.out b hb; omega))) (.inr (by show w.heap.size ≤ w.heap.size + 1; omega)) _
        clear hown hgrow hv hb0 hb1 HF HQ HLL HMr
        go_wp2_with fail
        go_roundg (t.exps.length - (k + 1))
        case measure => rw [HM.out]; omega
        case rel => exact ⟨k + 1, _, by go_num, by omega, rfl, HB.out, HB1.out, HO.out, HF3.out⟩
    · obtain rfl : k = t.exps.length := by omega
      have hFd : Fd wr (w.heap.size + 1) t root (.slice ea t.exps.length ec) (.slice pa t.pats.length pc) (.slice ba t.bnds.length bc) cE (.slice none 0 0) (.slice ma t.exps.length mc) [] noE :=
        ⟨HQ.out, HT.out.keep fun b hb => HF.out.block b (HT.out.lt b hb) id, fun b hb => by have := HT.out.lt b hb; omega, World.ownsRow_nil _ _ _ _, by have := hM; simpa [noE, apE, List.map_const'] using this, (fun b h => by cases h), (fun v h => by cases h), hne, hnb⟩
      clear HQ HLL HMr HM hM
      go_wp2_with fail
      refine (HC.out _ _ _ _ _ _ _ _ _ _ hFd).mono ?_
      rintro r w1 ⟨rfl, S1, M1, hX1⟩
      have HF1 : Hid (Fr (fun _ => False) w w1) := by
        refine HF.out.trans hX1.2.1 ?_
        intro i hi
        right
        have := (hFd.own_ge i hi).1
        omega
      obtain ⟨⟨-, -, -, -, c5, c6⟩, -⟩ := hX1.1.cells
      have HR : Hid (w1.ownsRow w.heap.size 3 1 M1 t.exps.length ((apE b.2 (t.exps.map fun _ => -1)).map (.int .i64))) := by
        have h1 := hX1.1.m
        have h2 : (orE noE b).2 = b.2 := by simp [orE, noE]
        rw [h2] at h1
        exact ownsRow_base h1 fun k hk => by have := (h1.lt k hk).1; omega
      have h3 : (orE noE b).1 = b.1 := by simp [orE, noE]
      rw [h3] at c6
      clear hFd hX1 HF h3
      obtain ⟨b1, b2⟩ := b
      cases b1 with
      | true =>
        go_wp2_with fail
        go_ret2
        exact ⟨HF1.out, _, rfl⟩
      | false =>
        obtain ⟨ra, rc, rfl⟩ := ownsRow_len HR.out
        go_wp2_with fail
        go_ret2
        exact ⟨HF1.out, _, rfl, HR.out⟩

end Go.Proofs.YtklimomeendajaaGreatDoor
