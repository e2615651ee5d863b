import Derived.Test.YtnbhnjokpcdnnaaDoorMB1
set_option linter.unusedVariables false
set_option linter.unusedSimpArgs false
namespace Go.Proofs.YtnbhnjokpcdnnaaDoor
open Go.RowKit

set_option maxHeartbeats 3200000 in
set_option maxRecDepth 100000 in
theorem fe_one22 (t : RS) (R : Int → List Int → Option Bool) (ih : FIh t R) (n : Nat) (nu bi f1 f2 f3 : Int) (fs : List (Int × Int × Int)) (am : List (Int × Int)) (i : Int) (sg : List Int) (b : Bool) (he : expAt t i = some ⟨22, nu, bi, f1, f2, f3, fs, am⟩) (h : R f1 sg = some b) : FCt t i sg b := by
  intro q root E P B cE S M bad w hd
  obtain ⟨⟨c0, -, -, -, -, -⟩, -⟩ := hd.cells
  have hq := hd.lt
  have hne := hd.ne
  obtain ⟨g, cap, m, vf, va, rfl, rfl, hm, hg, hea, ⟨hmf, hma⟩, d0, d1, d2, d3, d4, d5, d6, d7⟩ := hd.ex he
  have Hof : Hid (∀ b, vf.ownBlock = some b → b < q) := fun b hb => hd.old b (.inr (.inr (.inr ⟨vf, hmf, hb⟩)))
  have Hoa : Hid (∀ b, va.ownBlock = some b → b < q) := fun b hb => hd.old b (.inr (.inr (.inr ⟨va, hma, hb⟩)))
  have Hrf : Hid (w.ownsRow 0 96 3 vf fs.length (funCells fs)) := hea.f
  have Hra : Hid (w.ownsRow 0 92 2 va am.length (armCells am)) := hea.a
  obtain ⟨fa, fc, rfl⟩ := ownsRow_len hea.f
  obtain ⟨aa, ac, rfl⟩ := ownsRow_len hea.a
  generalize hW : w.alloc (.cells #[.int .i64 22, .int .i64 nu, .int .i64 bi, .int .i64 f1, .int .i64 f2, .int .i64 f3, .slice fa fs.length fc, .slice aa am.length ac] 80) = W
  have hFW : Fr (fun _ => False) w W := by rw [← hW]; exact (Fr.refl _ w).alloc _
  have hX0 := Fx.start (hd.fr hFW)
  have hl : ¬ fown q S M w.heap.size := fun h' => by have := (hd.own_ge _ h').2; omega
  have hbl : W.heap[w.heap.size]? = some (.cells #[.int .i64 22, .int .i64 nu, .int .i64 bi, .int .i64 f1, .int .i64 f2, .int .i64 f3, .slice fa fs.length fc, .slice aa am.length ac] 80 (0, 0)) := by rw [← hW]; exact blk_new w _
  have HFW : Hid (Fr (fun _ => False) w W) := hFW
  have HL : Hid (∀ w' S' M' sg' bad', Fx q t root (.slice (some ⟨g, 0, none⟩) t.exps.length cap) P B cE W S M w' S' M' sg' bad' → w'.heap[w.heap.size]? = some (.cells #[.int .i64 22, .int .i64 nu, .int .i64 bi, .int .i64 f1, .int .i64 f2, .int .i64 f3, .slice fa fs.length fc, .slice aa am.length ac] 80 (0, 0))) := fun w' S' M' sg' bad' hx => hx.blk hl hbl
  obtain ⟨m0, m1, m2, m3, m4, m5, m6, m7⟩ := cells8 hbl
  clear hd hea hmf hma hl hbl hFW he
  go_enter Tryd.func20, Tryd.ntmps20
  go_wp2_with fail
  refine (hX0.exp (ih _ _ _ h)).mono ?_
  rintro r w1 ⟨rfl, S1, M1, hX1, -, -⟩
  clear hX0 hW m0 m1 m2 m3 m4 m5 m6 m7 d0 d1 d2 d3 d4 d5 d6 d7 c0
  go_wp2_with fail
  go_end0
  exact ⟨rfl, Fn1.pre HFW.out hX1.n1⟩

set_option maxHeartbeats 3200000 in
set_option maxRecDepth 100000 in
theorem fe_one23 (t : RS) (R : Int → List Int → Option Bool) (ih : FIh t R) (n : Nat) (nu bi f1 f2 f3 : Int) (fs : List (Int × Int × Int)) (am : List (Int × Int)) (i : Int) (sg : List Int) (b : Bool) (he : expAt t i = some ⟨23, nu, bi, f1, f2, f3, fs, am⟩) (h : R f1 sg = some b) : FCt t i sg b := by
  intro q root E P B cE S M bad w hd
  obtain ⟨⟨c0, -, -, -, -, -⟩, -⟩ := hd.cells
  have hq := hd.lt
  have hne := hd.ne
  obtain ⟨g, cap, m, vf, va, rfl, rfl, hm, hg, hea, ⟨hmf, hma⟩, d0, d1, d2, d3, d4, d5, d6, d7⟩ := hd.ex he
  have Hof : Hid (∀ b, vf.ownBlock = some b → b < q) := fun b hb => hd.old b (.inr (.inr (.inr ⟨vf, hmf, hb⟩)))
  have Hoa : Hid (∀ b, va.ownBlock = some b → b < q) := fun b hb => hd.old b (.inr (.inr (.inr ⟨va, hma, hb⟩)))
  have Hrf : Hid (w.ownsRow 0 96 3 vf fs.length (funCells fs)) := hea.f
  have Hra : Hid (w.ownsRow 0 92 2 va am.length (armCells am)) := hea.a
  obtain ⟨fa, fc, rfl⟩ := ownsRow_len hea.f
  obtain ⟨aa, ac, rfl⟩ := ownsRow_len hea.a
  generalize hW : w.alloc (.cells #[.int .i64 23, .int .i64 nu, .int .i64 bi, .int .i64 f1, .int .i64 f2, .int .i64 f3, .slice fa fs.length fc, .slice aa am.length ac] 80) = W
  have hFW : Fr (fun _ => False) w W := by rw [← hW]; exact (Fr.refl _ w).alloc _
  have hX0 := Fx.start (hd.fr hFW)
  have hl : ¬ fown q S M w.heap.size := fun h' => by have := (hd.own_ge _ h').2; omega
  have hbl : W.heap[w.heap.size]? = some (.cells #[.int .i64 23, .int .i64 nu, .int .i64 bi, .int .i64 f1, .int .i64 f2, .int .i64 f3, .slice fa fs.length fc, .slice aa am.length ac] 80 (0, 0)) := by rw [← hW]; exact blk_new w _
  have HFW : Hid (Fr (fun _ => False) w W) := hFW
  have HL : Hid (∀ w' S' M' sg' bad', Fx q t root (.slice (some ⟨g, 0, none⟩) t.exps.length cap) P B cE W S M w' S' M' sg' bad' → w'.heap[w.heap.size]? = some (.cells #[.int .i64 23, .int .i64 nu, .int .i64 bi, .int .i64 f1, .int .i64 f2, .int .i64 f3, .slice fa fs.length fc, .slice aa am.length ac] 80 (0, 0))) := fun w' S' M' sg' bad' hx => hx.blk hl hbl
  obtain ⟨m0, m1, m2, m3, m4, m5, m6, m7⟩ := cells8 hbl
  clear hd hea hmf hma hl hbl hFW he
  go_enter Tryd.func20, Tryd.ntmps20
  go_wp2_with fail
  refine (hX0.exp (ih _ _ _ h)).mono ?_
  rintro r w1 ⟨rfl, S1, M1, hX1, -, -⟩
  clear hX0 hW m0 m1 m2 m3 m4 m5 m6 m7 d0 d1 d2 d3 d4 d5 d6 d7 c0
  go_wp2_with fail
  go_end0
  exact ⟨rfl, Fn1.pre HFW.out hX1.n1⟩

set_option maxHeartbeats 3200000 in
set_option maxRecDepth 100000 in
theorem fe_one24 (t : RS) (R : Int → List Int → Option Bool) (ih : FIh t R) (n : Nat) (nu bi f1 f2 f3 : Int) (fs : List (Int × Int × Int)) (am : List (Int × Int)) (i : Int) (sg : List Int) (b : Bool) (he : expAt t i = some ⟨24, nu, bi, f1, f2, f3, fs, am⟩) (h : R f1 sg = some b) : FCt t i sg b := by
  intro q root E P B cE S M bad w hd
  obtain ⟨⟨c0, -, -, -, -, -⟩, -⟩ := hd.cells
  have hq := hd.lt
  have hne := hd.ne
  obtain ⟨g, cap, m, vf, va, rfl, rfl, hm, hg, hea, ⟨hmf, hma⟩, d0, d1, d2, d3, d4, d5, d6, d7⟩ := hd.ex he
  have Hof : Hid (∀ b, vf.ownBlock = some b → b < q) := fun b hb => hd.old b (.inr (.inr (.inr ⟨vf, hmf, hb⟩)))
  have Hoa : Hid (∀ b, va.ownBlock = some b → b < q) := fun b hb => hd.old b (.inr (.inr (.inr ⟨va, hma, hb⟩)))
  have Hrf : Hid (w.ownsRow 0 96 3 vf fs.length (funCells fs)) := hea.f
  have Hra : Hid (w.ownsRow 0 92 2 va am.length (armCells am)) := hea.a
  obtain ⟨fa, fc, rfl⟩ := ownsRow_len hea.f
  obtain ⟨aa, ac, rfl⟩ := ownsRow_len hea.a
  generalize hW : w.alloc (.cells #[.int .i64 24, .int .i64 nu, .int .i64 bi, .int .i64 f1, .int .i64 f2, .int .i64 f3, .slice fa fs.length fc, .slice aa am.length ac] 80) = W
  have hFW : Fr (fun _ => False) w W := by rw [← hW]; exact (Fr.refl _ w).alloc _
  have hX0 := Fx.start (hd.fr hFW)
  have hl : ¬ fown q S M w.heap.size := fun h' => by have := (hd.own_ge _ h').2; omega
  have hbl : W.heap[w.heap.size]? = some (.cells #[.int .i64 24, .int .i64 nu, .int .i64 bi, .int .i64 f1, .int .i64 f2, .int .i64 f3, .slice fa fs.length fc, .slice aa am.length ac] 80 (0, 0)) := by rw [← hW]; exact blk_new w _
  have HFW : Hid (Fr (fun _ => False) w W) := hFW
  have HL : Hid (∀ w' S' M' sg' bad', Fx q t root (.slice (some ⟨g, 0, none⟩) t.exps.length cap) P B cE W S M w' S' M' sg' bad' → w'.heap[w.heap.size]? = some (.cells #[.int .i64 24, .int .i64 nu, .int .i64 bi, .int .i64 f1, .int .i64 f2, .int .i64 f3, .slice fa fs.length fc, .slice aa am.length ac] 80 (0, 0))) := fun w' S' M' sg' bad' hx => hx.blk hl hbl
  obtain ⟨m0, m1, m2, m3, m4, m5, m6, m7⟩ := cells8 hbl
  clear hd hea hmf hma hl hbl hFW he
  go_enter Tryd.func20, Tryd.ntmps20
  go_wp2_with fail
  refine (hX0.exp (ih _ _ _ h)).mono ?_
  rintro r w1 ⟨rfl, S1, M1, hX1, -, -⟩
  clear hX0 hW m0 m1 m2 m3 m4 m5 m6 m7 d0 d1 d2 d3 d4 d5 d6 d7 c0
  go_wp2_with fail
  go_end0
  exact ⟨rfl, Fn1.pre HFW.out hX1.n1⟩

set_option maxHeartbeats 3200000 in
set_option maxRecDepth 100000 in
theorem fe_two7 (t : RS) (R : Int → List Int → Option Bool) (ih : FIh t R) (n : Nat) (nu bi f1 f2 f3 : Int) (fs : List (Int × Int × Int)) (am : List (Int × Int)) (i : Int) (sg : List Int) (b : Bool) (he : expAt t i = some ⟨7, nu, bi, f1, f2, f3, fs, am⟩) (x y : Bool) (hx : R f1 sg = some x) (hy : R f2 sg = some y) (hb : b = (x || y)) : FCt t i sg b := by
  intro q root E P B cE S M bad w hd
  obtain ⟨⟨c0, -, -, -, -, -⟩, -⟩ := hd.cells
  have hq := hd.lt
  have hne := hd.ne
  obtain ⟨g, cap, m, vf, va, rfl, rfl, hm, hg, hea, ⟨hmf, hma⟩, d0, d1, d2, d3, d4, d5, d6, d7⟩ := hd.ex he
  have Hof : Hid (∀ b, vf.ownBlock = some b → b < q) := fun b hb => hd.old b (.inr (.inr (.inr ⟨vf, hmf, hb⟩)))
  have Hoa : Hid (∀ b, va.ownBlock = some b → b < q) := fun b hb => hd.old b (.inr (.inr (.inr ⟨va, hma, hb⟩)))
  have Hrf : Hid (w.ownsRow 0 96 3 vf fs.length (funCells fs)) := hea.f
  have Hra : Hid (w.ownsRow 0 92 2 va am.length (armCells am)) := hea.a
  obtain ⟨fa, fc, rfl⟩ := ownsRow_len hea.f
  obtain ⟨aa, ac, rfl⟩ := ownsRow_len hea.a
  generalize hW : w.alloc (.cells #[.int .i64 7, .int .i64 nu, .int .i64 bi, .int .i64 f1, .int .i64 f2, .int .i64 f3, .slice fa fs.length fc, .slice aa am.length ac] 80) = W
  have hFW : Fr (fun _ => False) w W := by rw [← hW]; exact (Fr.refl _ w).alloc _
  have hX0 := Fx.start (hd.fr hFW)
  have hl : ¬ fown q S M w.heap.size := fun h' => by have := (hd.own_ge _ h').2; omega
  have hbl : W.heap[w.heap.size]? = some (.cells #[.int .i64 7, .int .i64 nu, .int .i64 bi, .int .i64 f1, .int .i64 f2, .int .i64 f3, .slice fa fs.length fc, .slice aa am.length ac] 80 (0, 0)) := by rw [← hW]; exact blk_new w _
  have HFW : Hid (Fr (fun _ => False) w W) := hFW
  have HL : Hid (∀ w' S' M' sg' bad', Fx q t root (.slice (some ⟨g, 0, none⟩) t.exps.length cap) P B cE W S M w' S' M' sg' bad' → w'.heap[w.heap.size]? = some (.cells #[.int .i64 7, .int .i64 nu, .int .i64 bi, .int .i64 f1, .int .i64 f2, .int .i64 f3, .slice fa fs.length fc, .slice aa am.length ac] 80 (0, 0))) := fun w' S' M' sg' bad' hx => hx.blk hl hbl
  obtain ⟨m0, m1, m2, m3, m4, m5, m6, m7⟩ := cells8 hbl
  have Hb : Hid (b = (x || y)) := hb
  clear hb
  clear hd hea hmf hma hl hbl hFW he
  go_enter Tryd.func20, Tryd.ntmps20
  go_wp2_with fail
  refine (hX0.exp (ih _ _ _ hx)).mono ?_
  rintro r w1 ⟨rfl, S1, M1, hX1, -, -⟩
  clear hX0 hW m0 m1 m2 m3 m4 m5 m6 m7 d0 d1 d2 d3 d4 d5 d6 d7 c0
  have hbl1 := HL.out _ _ _ _ _ hX1
  obtain ⟨-, -, -, -, m4, -, -, -⟩ := cells8 hbl1
  clear hbl1
  go_wp2_with fail
  refine (hX1.exp (ih _ _ _ hy)).mono ?_
  rintro r w2 ⟨rfl, S2, M2, hX2, -, -⟩
  clear hX1 m4
  go_wp2_with fail
  go_end0
  exact ⟨rfl, Fn1.pre HFW.out (by rw [Hb.out, ← Bool.or_assoc]; exact hX2.n1)⟩

set_option maxHeartbeats 3200000 in
set_option maxRecDepth 100000 in
theorem fe_two8 (t : RS) (R : Int → List Int → Option Bool) (ih : FIh t R) (n : Nat) (nu bi f1 f2 f3 : Int) (fs : List (Int × Int × Int)) (am : List (Int × Int)) (i : Int) (sg : List Int) (b : Bool) (he : expAt t i = some ⟨8, nu, bi, f1, f2, f3, fs, am⟩) (x y : Bool) (hx : R f1 sg = some x) (hy : R f2 sg = some y) (hb : b = (x || y)) : FCt t i sg b := by
  intro q root E P B cE S M bad w hd
  obtain ⟨⟨c0, -, -, -, -, -⟩, -⟩ := hd.cells
  have hq := hd.lt
  have hne := hd.ne
  obtain ⟨g, cap, m, vf, va, rfl, rfl, hm, hg, hea, ⟨hmf, hma⟩, d0, d1, d2, d3, d4, d5, d6, d7⟩ := hd.ex he
  have Hof : Hid (∀ b, vf.ownBlock = some b → b < q) := fun b hb => hd.old b (.inr (.inr (.inr ⟨vf, hmf, hb⟩)))
  have Hoa : Hid (∀ b, va.ownBlock = some b → b < q) := fun b hb => hd.old b (.inr (.inr (.inr ⟨va, hma, hb⟩)))
  have Hrf : Hid (w.ownsRow 0 96 3 vf fs.length (funCells fs)) := hea.f
  have Hra : Hid (w.ownsRow 0 92 2 va am.length (armCells am)) := hea.a
  obtain ⟨fa, fc, rfl⟩ := ownsRow_len hea.f
  obtain ⟨aa, ac, rfl⟩ := ownsRow_len hea.a
  generalize hW : w.alloc (.cells #[.int .i64 8, .int .i64 nu, .int .i64 bi, .int .i64 f1, .int .i64 f2, .int .i64 f3, .slice fa fs.length fc, .slice aa am.length ac] 80) = W
  have hFW : Fr (fun _ => False) w W := by rw [← hW]; exact (Fr.refl _ w).alloc _
  have hX0 := Fx.start (hd.fr hFW)
  have hl : ¬ fown q S M w.heap.size := fun h' => by have := (hd.own_ge _ h').2; omega
  have hbl : W.heap[w.heap.size]? = some (.cells #[.int .i64 8, .int .i64 nu, .int .i64 bi, .int .i64 f1, .int .i64 f2, .int .i64 f3, .slice fa fs.length fc, .slice aa am.length ac] 80 (0, 0)) := by rw [← hW]; exact blk_new w _
  have HFW : Hid (Fr (fun _ => False) w W) := hFW
  have HL : Hid (∀ w' S' M' sg' bad', Fx q t root (.slice (some ⟨g, 0, none⟩) t.exps.length cap) P B cE W S M w' S' M' sg' bad' → w'.heap[w.heap.size]? = some (.cells #[.int .i64 8, .int .i64 nu, .int .i64 bi, .int .i64 f1, .int .i64 f2, .int .i64 f3, .slice fa fs.length fc, .slice aa am.length ac] 80 (0, 0))) := fun w' S' M' sg' bad' hx => hx.blk hl hbl
  obtain ⟨m0, m1, m2, m3, m4, m5, m6, m7⟩ := cells8 hbl
  have Hb : Hid (b = (x || y)) := hb
  clear hb
  clear hd hea hmf hma hl hbl hFW he
  go_enter Tryd.func20, Tryd.ntmps20
  go_wp2_with fail
  refine (hX0.exp (ih _ _ _ hx)).mono ?_
  rintro r w1 ⟨rfl, S1, M1, hX1, -, -⟩
  clear hX0 hW m0 m1 m2 m3 m4 m5 m6 m7 d0 d1 d2 d3 d4 d5 d6 d7 c0
  have hbl1 := HL.out _ _ _ _ _ hX1
  obtain ⟨-, -, -, -, m4, -, -, -⟩ := cells8 hbl1
  clear hbl1
  go_wp2_with fail
  refine (hX1.exp (ih _ _ _ hy)).mono ?_
  rintro r w2 ⟨rfl, S2, M2, hX2, -, -⟩
  clear hX1 m4
  go_wp2_with fail
  go_end0
  exact ⟨rfl, Fn1.pre HFW.out (by rw [Hb.out, ← Bool.or_assoc]; exact hX2.n1)⟩

set_option maxHeartbeats 3200000 in
set_option maxRecDepth 100000 in
theorem fe_two16 (t : RS) (R : Int → List Int → Option Bool) (ih : FIh t R) (n : Nat) (nu bi f1 f2 f3 : Int) (fs : List (Int × Int × Int)) (am : List (Int × Int)) (i : Int) (sg : List Int) (b : Bool) (he : expAt t i = some ⟨16, nu, bi, f1, f2, f3, fs, am⟩) (x y : Bool) (hx : R f1 sg = some x) (hy : R f2 sg = some y) (hb : b = (x || y)) : FCt t i sg b := by
  intro q root E P B cE S M bad w hd
  obtain ⟨⟨c0, -, -, -, -, -⟩, -⟩ := hd.cells
  have hq := hd.lt
  have hne := hd.ne
  obtain ⟨g, cap, m, vf, va, rfl, rfl, hm, hg, hea, ⟨hmf, hma⟩, d0, d1, d2, d3, d4, d5, d6, d7⟩ := hd.ex he
  have Hof : Hid (∀ b, vf.ownBlock = some b → b < q) := fun b hb => hd.old b (.inr (.inr (.inr ⟨vf, hmf, hb⟩)))
  have Hoa : Hid (∀ b, va.ownBlock = some b → b < q) := fun b hb => hd.old b (.inr (.inr (.inr ⟨va, hma, hb⟩)))
  have Hrf : Hid (w.ownsRow 0 96 3 vf fs.length (funCells fs)) := hea.f
  have Hra : Hid (w.ownsRow 0 92 2 va am.length (armCells am)) := hea.a
  obtain ⟨fa, fc, rfl⟩ := ownsRow_len hea.f
  obtain ⟨aa, ac, rfl⟩ := ownsRow_len hea.a
  generalize hW : w.alloc (.cells #[.int .i64 16, .int .i64 nu, .int .i64 bi, .int .i64 f1, .int .i64 f2, .int .i64 f3, .slice fa fs.length fc, .slice aa am.length ac] 80) = W
  have hFW : Fr (fun _ => False) w W := by rw [← hW]; exact (Fr.refl _ w).alloc _
  have hX0 := Fx.start (hd.fr hFW)
  have hl : ¬ fown q S M w.heap.size := fun h' => by have := (hd.own_ge _ h').2; omega
  have hbl : W.heap[w.heap.size]? = some (.cells #[.int .i64 16, .int .i64 nu, .int .i64 bi, .int .i64 f1, .int .i64 f2, .int .i64 f3, .slice fa fs.length fc, .slice aa am.length ac] 80 (0, 0)) := by rw [← hW]; exact blk_new w _
  have HFW : Hid (Fr (fun _ => False) w W) := hFW
  have HL : Hid (∀ w' S' M' sg' bad', Fx q t root (.slice (some ⟨g, 0, none⟩) t.exps.length cap) P B cE W S M w' S' M' sg' bad' → w'.heap[w.heap.size]? = some (.cells #[.int .i64 16, .int .i64 nu, .int .i64 bi, .int .i64 f1, .int .i64 f2, .int .i64 f3, .slice fa fs.length fc, .slice aa am.length ac] 80 (0, 0))) := fun w' S' M' sg' bad' hx => hx.blk hl hbl
  obtain ⟨m0, m1, m2, m3, m4, m5, m6, m7⟩ := cells8 hbl
  have Hb : Hid (b = (x || y)) := hb
  clear hb
  clear hd hea hmf hma hl hbl hFW he
  go_enter Tryd.func20, Tryd.ntmps20
  go_wp2_with fail
  refine (hX0.exp (ih _ _ _ hx)).mono ?_
  rintro r w1 ⟨rfl, S1, M1, hX1, -, -⟩
  clear hX0 hW m0 m1 m2 m3 m4 m5 m6 m7 d0 d1 d2 d3 d4 d5 d6 d7 c0
  have hbl1 := HL.out _ _ _ _ _ hX1
  obtain ⟨-, -, -, -, m4, -, -, -⟩ := cells8 hbl1
  clear hbl1
  go_wp2_with fail
  refine (hX1.exp (ih _ _ _ hy)).mono ?_
  rintro r w2 ⟨rfl, S2, M2, hX2, -, -⟩
  clear hX1 m4
  go_wp2_with fail
  go_end0
  exact ⟨rfl, Fn1.pre HFW.out (by rw [Hb.out, ← Bool.or_assoc]; exact hX2.n1)⟩

set_option maxHeartbeats 3200000 in
set_option maxRecDepth 100000 in
theorem fe_two17 (t : RS) (R : Int → List Int → Option Bool) (ih : FIh t R) (n : Nat) (nu bi f1 f2 f3 : Int) (fs : List (Int × Int × Int)) (am : List (Int × Int)) (i : Int) (sg : List Int) (b : Bool) (he : expAt t i = some ⟨17, nu, bi, f1, f2, f3, fs, am⟩) (x y : Bool) (hx : R f1 sg = some x) (hy : R f2 sg = some y) (hb : b = (x || y)) : FCt t i sg b := by
  intro q root E P B cE S M bad w hd
  obtain ⟨⟨c0, -, -, -, -, -⟩, -⟩ := hd.cells
  have hq := hd.lt
  have hne := hd.ne
  obtain ⟨g, cap, m, vf, va, rfl, rfl, hm, hg, hea, ⟨hmf, hma⟩, d0, d1, d2, d3, d4, d5, d6, d7⟩ := hd.ex he
  have Hof : Hid (∀ b, vf.ownBlock = some b → b < q) := fun b hb => hd.old b (.inr (.inr (.inr ⟨vf, hmf, hb⟩)))
  have Hoa : Hid (∀ b, va.ownBlock = some b → b < q) := fun b hb => hd.old b (.inr (.inr (.inr ⟨va, hma, hb⟩)))
  have Hrf : Hid (w.ownsRow 0 96 3 vf fs.length (funCells fs)) := hea.f
  have Hra : Hid (w.ownsRow 0 92 2 va am.length (armCells am)) := hea.a
  obtain ⟨fa, fc, rfl⟩ := ownsRow_len hea.f
  obtain ⟨aa, ac, rfl⟩ := ownsRow_len hea.a
  generalize hW : w.alloc (.cells #[.int .i64 17, .int .i64 nu, .int .i64 bi, .int .i64 f1, .int .i64 f2, .int .i64 f3, .slice fa fs.length fc, .slice aa am.length ac] 80) = W
  have hFW : Fr (fun _ => False) w W := by rw [← hW]; exact (Fr.refl _ w).alloc _
  have hX0 := Fx.start (hd.fr hFW)
  have hl : ¬ fown q S M w.heap.size := fun h' => by have := (hd.own_ge _ h').2; omega
  have hbl : W.heap[w.heap.size]? = some (.cells #[.int .i64 17, .int .i64 nu, .int .i64 bi, .int .i64 f1, .int .i64 f2, .int .i64 f3, .slice fa fs.length fc, .slice aa am.length ac] 80 (0, 0)) := by rw [← hW]; exact blk_new w _
  have HFW : Hid (Fr (fun _ => False) w W) := hFW
  have HL : Hid (∀ w' S' M' sg' bad', Fx q t root (.slice (some ⟨g, 0, none⟩) t.exps.length cap) P B cE W S M w' S' M' sg' bad' → w'.heap[w.heap.size]? = some (.cells #[.int .i64 17, .int .i64 nu, .int .i64 bi, .int .i64 f1, .int .i64 f2, .int .i64 f3, .slice fa fs.length fc, .slice aa am.length ac] 80 (0, 0))) := fun w' S' M' sg' bad' hx => hx.blk hl hbl
  obtain ⟨m0, m1, m2, m3, m4, m5, m6, m7⟩ := cells8 hbl
  have Hb : Hid (b = (x || y)) := hb
  clear hb
  clear hd hea hmf hma hl hbl hFW he
  go_enter Tryd.func20, Tryd.ntmps20
  go_wp2_with fail
  refine (hX0.exp (ih _ _ _ hx)).mono ?_
  rintro r w1 ⟨rfl, S1, M1, hX1, -, -⟩
  clear hX0 hW m0 m1 m2 m3 m4 m5 m6 m7 d0 d1 d2 d3 d4 d5 d6 d7 c0
  have hbl1 := HL.out _ _ _ _ _ hX1
  obtain ⟨-, -, -, -, m4, -, -, -⟩ := cells8 hbl1
  clear hbl1
  go_wp2_with fail
  refine (hX1.exp (ih _ _ _ hy)).mono ?_
  rintro r w2 ⟨rfl, S2, M2, hX2, -, -⟩
  clear hX1 m4
  go_wp2_with fail
  go_end0
  exact ⟨rfl, Fn1.pre HFW.out (by rw [Hb.out, ← Bool.or_assoc]; exact hX2.n1)⟩

set_option maxHeartbeats 3200000 in
set_option maxRecDepth 100000 in
theorem fe_two18 (t : RS) (R : Int → List Int → Option Bool) (ih : FIh t R) (n : Nat) (nu bi f1 f2 f3 : Int) (fs : List (Int × Int × Int)) (am : List (Int × Int)) (i : Int) (sg : List Int) (b : Bool) (he : expAt t i = some ⟨18, nu, bi, f1, f2, f3, fs, am⟩) (x y : Bool) (hx : R f1 sg = some x) (hy : R f2 sg = some y) (hb : b = (x || y)) : FCt t i sg b := by
  intro q root E P B cE S M bad w hd
  obtain ⟨⟨c0, -, -, -, -, -⟩, -⟩ := hd.cells
  have hq := hd.lt
  have hne := hd.ne
  obtain ⟨g, cap, m, vf, va, rfl, rfl, hm, hg, hea, ⟨hmf, hma⟩, d0, d1, d2, d3, d4, d5, d6, d7⟩ := hd.ex he
  have Hof : Hid (∀ b, vf.ownBlock = some b → b < q) := fun b hb => hd.old b (.inr (.inr (.inr ⟨vf, hmf, hb⟩)))
  have Hoa : Hid (∀ b, va.ownBlock = some b → b < q) := fun b hb => hd.old b (.inr (.inr (.inr ⟨va, hma, hb⟩)))
  have Hrf : Hid (w.ownsRow 0 96 3 vf fs.length (funCells fs)) := hea.f
  have Hra : Hid (w.ownsRow 0 92 2 va am.length (armCells am)) := hea.a
  obtain ⟨fa, fc, rfl⟩ := ownsRow_len hea.f
  obtain ⟨aa, ac, rfl⟩ := ownsRow_len hea.a
  generalize hW : w.alloc (.cells #[.int .i64 18, .int .i64 nu, .int .i64 bi, .int .i64 f1, .int .i64 f2, .int .i64 f3, .slice fa fs.length fc, .slice aa am.length ac] 80) = W
  have hFW : Fr (fun _ => False) w W := by rw [← hW]; exact (Fr.refl _ w).alloc _
  have hX0 := Fx.start (hd.fr hFW)
  have hl : ¬ fown q S M w.heap.size := fun h' => by have := (hd.own_ge _ h').2; omega
  have hbl : W.heap[w.heap.size]? = some (.cells #[.int .i64 18, .int .i64 nu, .int .i64 bi, .int .i64 f1, .int .i64 f2, .int .i64 f3, .slice fa fs.length fc, .slice aa am.length ac] 80 (0, 0)) := by rw [← hW]; exact blk_new w _
  have HFW : Hid (Fr (fun _ => False) w W) := hFW
  have HL : Hid (∀ w' S' M' sg' bad', Fx q t root (.slice (some ⟨g, 0, none⟩) t.exps.length cap) P B cE W S M w' S' M' sg' bad' → w'.heap[w.heap.size]? = some (.cells #[.int .i64 18, .int .i64 nu, .int .i64 bi, .int .i64 f1, .int .i64 f2, .int .i64 f3, .slice fa fs.length fc, .slice aa am.length ac] 80 (0, 0))) := fun w' S' M' sg' bad' hx => hx.blk hl hbl
  obtain ⟨m0, m1, m2, m3, m4, m5, m6, m7⟩ := cells8 hbl
  have Hb : Hid (b = (x || y)) := hb
  clear hb
  clear hd hea hmf hma hl hbl hFW he
  go_enter Tryd.func20, Tryd.ntmps20
  go_wp2_with fail
  refine (hX0.exp (ih _ _ _ hx)).mono ?_
  rintro r w1 ⟨rfl, S1, M1, hX1, -, -⟩
  clear hX0 hW m0 m1 m2 m3 m4 m5 m6 m7 d0 d1 d2 d3 d4 d5 d6 d7 c0
  have hbl1 := HL.out _ _ _ _ _ hX1
  obtain ⟨-, -, -, -, m4, -, -, -⟩ := cells8 hbl1
  clear hbl1
  go_wp2_with fail
  refine (hX1.exp (ih _ _ _ hy)).mono ?_
  rintro r w2 ⟨rfl, S2, M2, hX2, -, -⟩
  clear hX1 m4
  go_wp2_with fail
  go_end0
  exact ⟨rfl, Fn1.pre HFW.out (by rw [Hb.out, ← Bool.or_assoc]; exact hX2.n1)⟩

set_option maxHeartbeats 3200000 in
set_option maxRecDepth 100000 in
theorem fe_two19 (t : RS) (R : Int → List Int → Option Bool) (ih : FIh t R) (n : Nat) (nu bi f1 f2 f3 : Int) (fs : List (Int × Int × Int)) (am : List (Int × Int)) (i : Int) (sg : List Int) (b : Bool) (he : expAt t i = some ⟨19, nu, bi, f1, f2, f3, fs, am⟩) (x y : Bool) (hx : R f1 sg = some x) (hy : R f2 sg = some y) (hb : b = (x || y)) : FCt t i sg b := by
  intro q root E P B cE S M bad w hd
  obtain ⟨⟨c0, -, -, -, -, -⟩, -⟩ := hd.cells
  have hq := hd.lt
  have hne := hd.ne
  obtain ⟨g, cap, m, vf, va, rfl, rfl, hm, hg, hea, ⟨hmf, hma⟩, d0, d1, d2, d3, d4, d5, d6, d7⟩ := hd.ex he
  have Hof : Hid (∀ b, vf.ownBlock = some b → b < q) := fun b hb => hd.old b (.inr (.inr (.inr ⟨vf, hmf, hb⟩)))
  have Hoa : Hid (∀ b, va.ownBlock = some b → b < q) := fun b hb => hd.old b (.inr (.inr (.inr ⟨va, hma, hb⟩)))
  have Hrf : Hid (w.ownsRow 0 96 3 vf fs.length (funCells fs)) := hea.f
  have Hra : Hid (w.ownsRow 0 92 2 va am.length (armCells am)) := hea.a
  obtain ⟨fa, fc, rfl⟩ := ownsRow_len hea.f
  obtain ⟨aa, ac, rfl⟩ := ownsRow_len hea.a
  generalize hW : w.alloc (.cells #[.int .i64 19, .int .i64 nu, .int .i64 bi, .int .i64 f1, .int .i64 f2, .int .i64 f3, .slice fa fs.length fc, .slice aa am.length ac] 80) = W
  have hFW : Fr (fun _ => False) w W := by rw [← hW]; exact (Fr.refl _ w).alloc _
  have hX0 := Fx.start (hd.fr hFW)
  have hl : ¬ fown q S M w.heap.size := fun h' => by have := (hd.own_ge _ h').2; omega
  have hbl : W.heap[w.heap.size]? = some (.cells #[.int .i64 19, .int .i64 nu, .int .i64 bi, .int .i64 f1, .int .i64 f2, .int .i64 f3, .slice fa fs.length fc, .slice aa am.length ac] 80 (0, 0)) := by rw [← hW]; exact blk_new w _
  have HFW : Hid (Fr (fun _ => False) w W) := hFW
  have HL : Hid (∀ w' S' M' sg' bad', Fx q t root (.slice (some ⟨g, 0, none⟩) t.exps.length cap) P B cE W S M w' S' M' sg' bad' → w'.heap[w.heap.size]? = some (.cells #[.int .i64 19, .int .i64 nu, .int .i64 bi, .int .i64 f1, .int .i64 f2, .int .i64 f3, .slice fa fs.length fc, .slice aa am.length ac] 80 (0, 0))) := fun w' S' M' sg' bad' hx => hx.blk hl hbl
  obtain ⟨m0, m1, m2, m3, m4, m5, m6, m7⟩ := cells8 hbl
  have Hb : Hid (b = (x || y)) := hb
  clear hb
  clear hd hea hmf hma hl hbl hFW he
  go_enter Tryd.func20, Tryd.ntmps20
  go_wp2_with fail
  refine (hX0.exp (ih _ _ _ hx)).mono ?_
  rintro r w1 ⟨rfl, S1, M1, hX1, -, -⟩
  clear hX0 hW m0 m1 m2 m3 m4 m5 m6 m7 d0 d1 d2 d3 d4 d5 d6 d7 c0
  have hbl1 := HL.out _ _ _ _ _ hX1
  obtain ⟨-, -, -, -, m4, -, -, -⟩ := cells8 hbl1
  clear hbl1
  go_wp2_with fail
  refine (hX1.exp (ih _ _ _ hy)).mono ?_
  rintro r w2 ⟨rfl, S2, M2, hX2, -, -⟩
  clear hX1 m4
  go_wp2_with fail
  go_end0
  exact ⟨rfl, Fn1.pre HFW.out (by rw [Hb.out, ← Bool.or_assoc]; exact hX2.n1)⟩

set_option maxHeartbeats 3200000 in
set_option maxRecDepth 100000 in
theorem fe_two20 (t : RS) (R : Int → List Int → Option Bool) (ih : FIh t R) (n : Nat) (nu bi f1 f2 f3 : Int) (fs : List (Int × Int × Int)) (am : List (Int × Int)) (i : Int) (sg : List Int) (b : Bool) (he : expAt t i = some ⟨20, nu, bi, f1, f2, f3, fs, am⟩) (x y : Bool) (hx : R f1 sg = some x) (hy : R f2 sg = some y) (hb : b = (x || y)) : FCt t i sg b := by
  intro q root E P B cE S M bad w hd
  obtain ⟨⟨c0, -, -, -, -, -⟩, -⟩ := hd.cells
  have hq := hd.lt
  have hne := hd.ne
  obtain ⟨g, cap, m, vf, va, rfl, rfl, hm, hg, hea, ⟨hmf, hma⟩, d0, d1, d2, d3, d4, d5, d6, d7⟩ := hd.ex he
  have Hof : Hid (∀ b, vf.ownBlock = some b → b < q) := fun b hb => hd.old b (.inr (.inr (.inr ⟨vf, hmf, hb⟩)))
  have Hoa : Hid (∀ b, va.ownBlock = some b → b < q) := fun b hb => hd.old b (.inr (.inr (.inr ⟨va, hma, hb⟩)))
  have Hrf : Hid (w.ownsRow 0 96 3 vf fs.length (funCells fs)) := hea.f
  have Hra : Hid (w.ownsRow 0 92 2 va am.length (armCells am)) := hea.a
  obtain ⟨fa, fc, rfl⟩ := ownsRow_len hea.f
  obtain ⟨aa, ac, rfl⟩ := ownsRow_len hea.a
  generalize hW : w.alloc (.cells #[.int .i64 20, .int .i64 nu, .int .i64 bi, .int .i64 f1, .int .i64 f2, .int .i64 f3, .slice fa fs.length fc, .slice aa am.length ac] 80) = W
  have hFW : Fr (fun _ => False) w W := by rw [← hW]; exact (Fr.refl _ w).alloc _
  have hX0 := Fx.start (hd.fr hFW)
  have hl : ¬ fown q S M w.heap.size := fun h' => by have := (hd.own_ge _ h').2; omega
  have hbl : W.heap[w.heap.size]? = some (.cells #[.int .i64 20, .int .i64 nu, .int .i64 bi, .int .i64 f1, .int .i64 f2, .int .i64 f3, .slice fa fs.length fc, .slice aa am.length ac] 80 (0, 0)) := by rw [← hW]; exact blk_new w _
  have HFW : Hid (Fr (fun _ => False) w W) := hFW
  have HL : Hid (∀ w' S' M' sg' bad', Fx q t root (.slice (some ⟨g, 0, none⟩) t.exps.length cap) P B cE W S M w' S' M' sg' bad' → w'.heap[w.heap.size]? = some (.cells #[.int .i64 20, .int .i64 nu, .int .i64 bi, .int .i64 f1, .int .i64 f2, .int .i64 f3, .slice fa fs.length fc, .slice aa am.length ac] 80 (0, 0))) := fun w' S' M' sg' bad' hx => hx.blk hl hbl
  obtain ⟨m0, m1, m2, m3, m4, m5, m6, m7⟩ := cells8 hbl
  have Hb : Hid (b = (x || y)) := hb
  clear hb
  clear hd hea hmf hma hl hbl hFW he
  go_enter Tryd.func20, Tryd.ntmps20
  go_wp2_with fail
  refine (hX0.exp (ih _ _ _ hx)).mono ?_
  rintro r w1 ⟨rfl, S1, M1, hX1, -, -⟩
  clear hX0 hW m0 m1 m2 m3 m4 m5 m6 m7 d0 d1 d2 d3 d4 d5 d6 d7 c0
  have hbl1 := HL.out _ _ _ _ _ hX1
  obtain ⟨-, -, -, -, m4, -, -, -⟩ := cells8 hbl1
  clear hbl1
  go_wp2_with fail
  refine (hX1.exp (ih _ _ _ hy)).mono ?_
  rintro r w2 ⟨rfl, S2, M2, hX2, -, -⟩
  clear hX1 m4
  go_wp2_with fail
  go_end0
  exact ⟨rfl, Fn1.pre HFW.out (by rw [Hb.out, ← Bool.or_assoc]; exact hX2.n1)⟩

set_option maxHeartbeats 3200000 in
set_option maxRecDepth 100000 in
theorem fe_two21 (t : RS) (R : Int → List Int → Option Bool) (ih : FIh t R) (n : Nat) (nu bi f1 f2 f3 : Int) (fs : List (Int × Int × Int)) (am : List (Int × Int)) (i : Int) (sg : List Int) (b : Bool) (he : expAt t i = some ⟨21, nu, bi, f1, f2, f3, fs, am⟩) (x y : Bool) (hx : R f1 sg = some x) (hy : R f2 sg = some y) (hb : b = (x || y)) : FCt t i sg b := by
  intro q root E P B cE S M bad w hd
  obtain ⟨⟨c0, -, -, -, -, -⟩, -⟩ := hd.cells
  have hq := hd.lt
  have hne := hd.ne
  obtain ⟨g, cap, m, vf, va, rfl, rfl, hm, hg, hea, ⟨hmf, hma⟩, d0, d1, d2, d3, d4, d5, d6, d7⟩ := hd.ex he
  have Hof : Hid (∀ b, vf.ownBlock = some b → b < q) := fun b hb => hd.old b (.inr (.inr (.inr ⟨vf, hmf, hb⟩)))
  have Hoa : Hid (∀ b, va.ownBlock = some b → b < q) := fun b hb => hd.old b (.inr (.inr (.inr ⟨va, hma, hb⟩)))
  have Hrf : Hid (w.ownsRow 0 96 3 vf fs.length (funCells fs)) := hea.f
  have Hra : Hid (w.ownsRow 0 92 2 va am.length (armCells am)) := hea.a
  obtain ⟨fa, fc, rfl⟩ := ownsRow_len hea.f
  obtain ⟨aa, ac, rfl⟩ := ownsRow_len hea.a
  generalize hW : w.alloc (.cells #[.int .i64 21, .int .i64 nu, .int .i64 bi, .int .i64 f1, .int .i64 f2, .int .i64 f3, .slice fa fs.length fc, .slice aa am.length ac] 80) = W
  have hFW : Fr (fun _ => False) w W := by rw [← hW]; exact (Fr.refl _ w).alloc _
  have hX0 := Fx.start (hd.fr hFW)
  have hl : ¬ fown q S M w.heap.size := fun h' => by have := (hd.own_ge _ h').2; omega
  have hbl : W.heap[w.heap.size]? = some (.cells #[.int .i64 21, .int .i64 nu, .int .i64 bi, .int .i64 f1, .int .i64 f2, .int .i64 f3, .slice fa fs.length fc, .slice aa am.length ac] 80 (0, 0)) := by rw [← hW]; exact blk_new w _
  have HFW : Hid (Fr (fun _ => False) w W) := hFW
  have HL : Hid (∀ w' S' M' sg' bad', Fx q t root (.slice (some ⟨g, 0, none⟩) t.exps.length cap) P B cE W S M w' S' M' sg' bad' → w'.heap[w.heap.size]? = some (.cells #[.int .i64 21, .int .i64 nu, .int .i64 bi, .int .i64 f1, .int .i64 f2, .int .i64 f3, .slice fa fs.length fc, .slice aa am.length ac] 80 (0, 0))) := fun w' S' M' sg' bad' hx => hx.blk hl hbl
  obtain ⟨m0, m1, m2, m3, m4, m5, m6, m7⟩ := cells8 hbl
  have Hb : Hid (b = (x || y)) := hb
  clear hb
  clear hd hea hmf hma hl hbl hFW he
  go_enter Tryd.func20, Tryd.ntmps20
  go_wp2_with fail
  refine (hX0.exp (ih _ _ _ hx)).mono ?_
  rintro r w1 ⟨rfl, S1, M1, hX1, -, -⟩
  clear hX0 hW m0 m1 m2 m3 m4 m5 m6 m7 d0 d1 d2 d3 d4 d5 d6 d7 c0
  have hbl1 := HL.out _ _ _ _ _ hX1
  obtain ⟨-, -, -, -, m4, -, -, -⟩ := cells8 hbl1
  clear hbl1
  go_wp2_with fail
  refine (hX1.exp (ih _ _ _ hy)).mono ?_
  rintro r w2 ⟨rfl, S2, M2, hX2, -, -⟩
  clear hX1 m4
  go_wp2_with fail
  go_end0
  exact ⟨rfl, Fn1.pre HFW.out (by rw [Hb.out, ← Bool.or_assoc]; exact hX2.n1)⟩

set_option maxHeartbeats 3200000 in
set_option maxRecDepth 100000 in
theorem fe_two25 (t : RS) (R : Int → List Int → Option Bool) (ih : FIh t R) (n : Nat) (nu bi f1 f2 f3 : Int) (fs : List (Int × Int × Int)) (am : List (Int × Int)) (i : Int) (sg : List Int) (b : Bool) (he : expAt t i = some ⟨25, nu, bi, f1, f2, f3, fs, am⟩) (x y : Bool) (hx : R f1 sg = some x) (hy : R f2 sg = some y) (hb : b = (x || y)) : FCt t i sg b := by
  intro q root E P B cE S M bad w hd
  obtain ⟨⟨c0, -, -, -, -, -⟩, -⟩ := hd.cells
  have hq := hd.lt
  have hne := hd.ne
  obtain ⟨g, cap, m, vf, va, rfl, rfl, hm, hg, hea, ⟨hmf, hma⟩, d0, d1, d2, d3, d4, d5, d6, d7⟩ := hd.ex he
  have Hof : Hid (∀ b, vf.ownBlock = some b → b < q) := fun b hb => hd.old b (.inr (.inr (.inr ⟨vf, hmf, hb⟩)))
  have Hoa : Hid (∀ b, va.ownBlock = some b → b < q) := fun b hb => hd.old b (.inr (.inr (.inr ⟨va, hma, hb⟩)))
  have Hrf : Hid (w.ownsRow 0 96 3 vf fs.length (funCells fs)) := hea.f
  have Hra : Hid (w.ownsRow 0 92 2 va am.length (armCells am)) := hea.a
  obtain ⟨fa, fc, rfl⟩ := ownsRow_len hea.f
  obtain ⟨aa, ac, rfl⟩ := ownsRow_len hea.a
  generalize hW : w.alloc (.cells #[.int .i64 25, .int .i64 nu, .int .i64 bi, .int .i64 f1, .int .i64 f2, .int .i64 f3, .slice fa fs.length fc, .slice aa am.length ac] 80) = W
  have hFW : Fr (fun _ => False) w W := by rw [← hW]; exact (Fr.refl _ w).alloc _
  have hX0 := Fx.start (hd.fr hFW)
  have hl : ¬ fown q S M w.heap.size := fun h' => by have := (hd.own_ge _ h').2; omega
  have hbl : W.heap[w.heap.size]? = some (.cells #[.int .i64 25, .int .i64 nu, .int .i64 bi, .int .i64 f1, .int .i64 f2, .int .i64 f3, .slice fa fs.length fc, .slice aa am.length ac] 80 (0, 0)) := by rw [← hW]; exact blk_new w _
  have HFW : Hid (Fr (fun _ => False) w W) := hFW
  have HL : Hid (∀ w' S' M' sg' bad', Fx q t root (.slice (some ⟨g, 0, none⟩) t.exps.length cap) P B cE W S M w' S' M' sg' bad' → w'.heap[w.heap.size]? = some (.cells #[.int .i64 25, .int .i64 nu, .int .i64 bi, .int .i64 f1, .int .i64 f2, .int .i64 f3, .slice fa fs.length fc, .slice aa am.length ac] 80 (0, 0))) := fun w' S' M' sg' bad' hx => hx.blk hl hbl
  obtain ⟨m0, m1, m2, m3, m4, m5, m6, m7⟩ := cells8 hbl
  have Hb : Hid (b = (x || y)) := hb
  clear hb
  clear hd hea hmf hma hl hbl hFW he
  go_enter Tryd.func20, Tryd.ntmps20
  go_wp2_with fail
  refine (hX0.exp (ih _ _ _ hx)).mono ?_
  rintro r w1 ⟨rfl, S1, M1, hX1, -, -⟩
  clear hX0 hW m0 m1 m2 m3 m4 m5 m6 m7 d0 d1 d2 d3 d4 d5 d6 d7 c0
  have hbl1 := HL.out _ _ _ _ _ hX1
  obtain ⟨-, -, -, -, m4, -, -, -⟩ := cells8 hbl1
  clear hbl1
  go_wp2_with fail
  refine (hX1.exp (ih _ _ _ hy)).mono ?_
  rintro r w2 ⟨rfl, S2, M2, hX2, -, -⟩
  clear hX1 m4
  go_wp2_with fail
  go_end0
  exact ⟨rfl, Fn1.pre HFW.out (by rw [Hb.out, ← Bool.or_assoc]; exact hX2.n1)⟩

set_option maxHeartbeats 3200000 in
set_option maxRecDepth 100000 in
theorem fe_two26 (t : RS) (R : Int → List Int → Option Bool) (ih : FIh t R) (n : Nat) (nu bi f1 f2 f3 : Int) (fs : List (Int × Int × Int)) (am : List (Int × Int)) (i : Int) (sg : List Int) (b : Bool) (he : expAt t i = some ⟨26, nu, bi, f1, f2, f3, fs, am⟩) (x y : Bool) (hx : R f1 sg = some x) (hy : R f2 sg = some y) (hb : b = (x || y)) : FCt t i sg b := by
  intro q root E P B cE S M bad w hd
  obtain ⟨⟨c0, -, -, -, -, -⟩, -⟩ := hd.cells
  have hq := hd.lt
  have hne := hd.ne
  obtain ⟨g, cap, m, vf, va, rfl, rfl, hm, hg, hea, ⟨hmf, hma⟩, d0, d1, d2, d3, d4, d5, d6, d7⟩ := hd.ex he
  have Hof : Hid (∀ b, vf.ownBlock = some b → b < q) := fun b hb => hd.old b (.inr (.inr (.inr ⟨vf, hmf, hb⟩)))
  have Hoa : Hid (∀ b, va.ownBlock = some b → b < q) := fun b hb => hd.old b (.inr (.inr (.inr ⟨va, hma, hb⟩)))
  have Hrf : Hid (w.ownsRow 0 96 3 vf fs.length (funCells fs)) := hea.f
  have Hra : Hid (w.ownsRow 0 92 2 va am.length (armCells am)) := hea.a
  obtain ⟨fa, fc, rfl⟩ := ownsRow_len hea.f
  obtain ⟨aa, ac, rfl⟩ := ownsRow_len hea.a
  generalize hW : w.alloc (.cells #[.int .i64 26, .int .i64 nu, .int .i64 bi, .int .i64 f1, .int .i64 f2, .int .i64 f3, .slice fa fs.length fc, .slice aa am.length ac] 80) = W
  have hFW : Fr (fun _ => False) w W := by rw [← hW]; exact (Fr.refl _ w).alloc _
  have hX0 := Fx.start (hd.fr hFW)
  have hl : ¬ fown q S M w.heap.size := fun h' => by have := (hd.own_ge _ h').2; omega
  have hbl : W.heap[w.heap.size]? = some (.cells #[.int .i64 26, .int .i64 nu, .int .i64 bi, .int .i64 f1, .int .i64 f2, .int .i64 f3, .slice fa fs.length fc, .slice aa am.length ac] 80 (0, 0)) := by rw [← hW]; exact blk_new w _
  have HFW : Hid (Fr (fun _ => False) w W) := hFW
  have HL : Hid (∀ w' S' M' sg' bad', Fx q t root (.slice (some ⟨g, 0, none⟩) t.exps.length cap) P B cE W S M w' S' M' sg' bad' → w'.heap[w.heap.size]? = some (.cells #[.int .i64 26, .int .i64 nu, .int .i64 bi, .int .i64 f1, .int .i64 f2, .int .i64 f3, .slice fa fs.length fc, .slice aa am.length ac] 80 (0, 0))) := fun w' S' M' sg' bad' hx => hx.blk hl hbl
  obtain ⟨m0, m1, m2, m3, m4, m5, m6, m7⟩ := cells8 hbl
  have Hb : Hid (b = (x || y)) := hb
  clear hb
  clear hd hea hmf hma hl hbl hFW he
  go_enter Tryd.func20, Tryd.ntmps20
  go_wp2_with fail
  refine (hX0.exp (ih _ _ _ hx)).mono ?_
  rintro r w1 ⟨rfl, S1, M1, hX1, -, -⟩
  clear hX0 hW m0 m1 m2 m3 m4 m5 m6 m7 d0 d1 d2 d3 d4 d5 d6 d7 c0
  have hbl1 := HL.out _ _ _ _ _ hX1
  obtain ⟨-, -, -, -, m4, -, -, -⟩ := cells8 hbl1
  clear hbl1
  go_wp2_with fail
  refine (hX1.exp (ih _ _ _ hy)).mono ?_
  rintro r w2 ⟨rfl, S2, M2, hX2, -, -⟩
  clear hX1 m4
  go_wp2_with fail
  go_end0
  exact ⟨rfl, Fn1.pre HFW.out (by rw [Hb.out, ← Bool.or_assoc]; exact hX2.n1)⟩

set_option maxHeartbeats 3200000 in
set_option maxRecDepth 100000 in
theorem fe_three (t : RS) (R : Int → List Int → Option Bool) (ih : FIh t R) (n : Nat) (nu bi f1 f2 f3 : Int) (fs : List (Int × Int × Int)) (am : List (Int × Int)) (i : Int) (sg : List Int) (b : Bool) (he : expAt t i = some ⟨13, nu, bi, f1, f2, f3, fs, am⟩) (x y z : Bool) (hx : R f1 sg = some x) (hy : R f2 sg = some y) (hz : R f3 sg = some z) (hb : b = (x || y || z)) : FCt t i sg b := by
  intro q root E P B cE S M bad w hd
  obtain ⟨⟨c0, -, -, -, -, -⟩, -⟩ := hd.cells
  have hq := hd.lt
  have hne := hd.ne
  obtain ⟨g, cap, m, vf, va, rfl, rfl, hm, hg, hea, ⟨hmf, hma⟩, d0, d1, d2, d3, d4, d5, d6, d7⟩ := hd.ex he
  have Hof : Hid (∀ b, vf.ownBlock = some b → b < q) := fun b hb => hd.old b (.inr (.inr (.inr ⟨vf, hmf, hb⟩)))
  have Hoa : Hid (∀ b, va.ownBlock = some b → b < q) := fun b hb => hd.old b (.inr (.inr (.inr ⟨va, hma, hb⟩)))
  have Hrf : Hid (w.ownsRow 0 96 3 vf fs.length (funCells fs)) := hea.f
  have Hra : Hid (w.ownsRow 0 92 2 va am.length (armCells am)) := hea.a
  obtain ⟨fa, fc, rfl⟩ := ownsRow_len hea.f
  obtain ⟨aa, ac, rfl⟩ := ownsRow_len hea.a
  generalize hW : w.alloc (.cells #[.int .i64 13, .int .i64 nu, .int .i64 bi, .int .i64 f1, .int .i64 f2, .int .i64 f3, .slice fa fs.length fc, .slice aa am.length ac] 80) = W
  have hFW : Fr (fun _ => False) w W := by rw [← hW]; exact (Fr.refl _ w).alloc _
  have hX0 := Fx.start (hd.fr hFW)
  have hl : ¬ fown q S M w.heap.size := fun h' => by have := (hd.own_ge _ h').2; omega
  have hbl : W.heap[w.heap.size]? = some (.cells #[.int .i64 13, .int .i64 nu, .int .i64 bi, .int .i64 f1, .int .i64 f2, .int .i64 f3, .slice fa fs.length fc, .slice aa am.length ac] 80 (0, 0)) := by rw [← hW]; exact blk_new w _
  have HFW : Hid (Fr (fun _ => False) w W) := hFW
  have HL : Hid (∀ w' S' M' sg' bad', Fx q t root (.slice (some ⟨g, 0, none⟩) t.exps.length cap) P B cE W S M w' S' M' sg' bad' → w'.heap[w.heap.size]? = some (.cells #[.int .i64 13, .int .i64 nu, .int .i64 bi, .int .i64 f1, .int .i64 f2, .int .i64 f3, .slice fa fs.length fc, .slice aa am.length ac] 80 (0, 0))) := fun w' S' M' sg' bad' hx => hx.blk hl hbl
  obtain ⟨m0, m1, m2, m3, m4, m5, m6, m7⟩ := cells8 hbl
  have Hb : Hid (b = (x || y || z)) := hb
  clear hb
  clear hd hea hmf hma hl hbl hFW he
  go_enter Tryd.func20, Tryd.ntmps20
  go_wp2_with fail
  refine (hX0.exp (ih _ _ _ hx)).mono ?_
  rintro r w1 ⟨rfl, S1, M1, hX1, -, -⟩
  clear hX0 hW m0 m1 m2 m3 m4 m5 m6 m7 d0 d1 d2 d3 d4 d5 d6 d7 c0
  have hbl1 := HL.out _ _ _ _ _ hX1
  obtain ⟨-, -, -, -, m4, -, -, -⟩ := cells8 hbl1
  clear hbl1
  go_wp2_with fail
  refine (hX1.exp (ih _ _ _ hy)).mono ?_
  rintro r w2 ⟨rfl, S2, M2, hX2, -, -⟩
  clear hX1 m4
  have hbl2 := HL.out _ _ _ _ _ hX2
  obtain ⟨-, -, -, -, -, m5, -, -⟩ := cells8 hbl2
  clear hbl2
  go_wp2_with fail
  refine (hX2.exp (ih _ _ _ hz)).mono ?_
  rintro r w3 ⟨rfl, S3, M3, hX3, -, -⟩
  clear hX2 m5
  go_wp2_with fail
  go_end0
  exact ⟨rfl, Fn1.pre HFW.out (by rw [Hb.out]; simpa [Bool.or_assoc] using hX3.n1)⟩

set_option maxHeartbeats 3200000 in
set_option maxRecDepth 100000 in
theorem fe_fn (t : RS) (R : Int → List Int → Option Bool) (ih : FIh t R) (n : Nat) (nu bi f1 f2 f3 : Int) (fs : List (Int × Int × Int)) (am : List (Int × Int)) (i : Int) (sg : List Int) (b : Bool) (he : expAt t i = some ⟨12, nu, bi, f1, f2, f3, fs, am⟩) (h : fWithin t R bi f1 sg = some b) : FCt t i sg b := by
  intro q root E P B cE S M bad w hd
  obtain ⟨⟨c0, -, -, -, -, -⟩, -⟩ := hd.cells
  have hq := hd.lt
  have hne := hd.ne
  obtain ⟨g, cap, m, vf, va, rfl, rfl, hm, hg, hea, ⟨hmf, hma⟩, d0, d1, d2, d3, d4, d5, d6, d7⟩ := hd.ex he
  have Hof : Hid (∀ b, vf.ownBlock = some b → b < q) := fun b hb => hd.old b (.inr (.inr (.inr ⟨vf, hmf, hb⟩)))
  have Hoa : Hid (∀ b, va.ownBlock = some b → b < q) := fun b hb => hd.old b (.inr (.inr (.inr ⟨va, hma, hb⟩)))
  have Hrf : Hid (w.ownsRow 0 96 3 vf fs.length (funCells fs)) := hea.f
  have Hra : Hid (w.ownsRow 0 92 2 va am.length (armCells am)) := hea.a
  obtain ⟨fa, fc, rfl⟩ := ownsRow_len hea.f
  obtain ⟨aa, ac, rfl⟩ := ownsRow_len hea.a
  generalize hW : w.alloc (.cells #[.int .i64 12, .int .i64 nu, .int .i64 bi, .int .i64 f1, .int .i64 f2, .int .i64 f3, .slice fa fs.length fc, .slice aa am.length ac] 80) = W
  have hFW : Fr (fun _ => False) w W := by rw [← hW]; exact (Fr.refl _ w).alloc _
  have hX0 := Fx.start (hd.fr hFW)
  have hl : ¬ fown q S M w.heap.size := fun h' => by have := (hd.own_ge _ h').2; omega
  have hbl : W.heap[w.heap.size]? = some (.cells #[.int .i64 12, .int .i64 nu, .int .i64 bi, .int .i64 f1, .int .i64 f2, .int .i64 f3, .slice fa fs.length fc, .slice aa am.length ac] 80 (0, 0)) := by rw [← hW]; exact blk_new w _
  have HFW : Hid (Fr (fun _ => False) w W) := hFW
  have HL : Hid (∀ w' S' M' sg' bad', Fx q t root (.slice (some ⟨g, 0, none⟩) t.exps.length cap) P B cE W S M w' S' M' sg' bad' → w'.heap[w.heap.size]? = some (.cells #[.int .i64 12, .int .i64 nu, .int .i64 bi, .int .i64 f1, .int .i64 f2, .int .i64 f3, .slice fa fs.length fc, .slice aa am.length ac] 80 (0, 0))) := fun w' S' M' sg' bad' hx => hx.blk hl hbl
  obtain ⟨m0, m1, m2, m3, m4, m5, m6, m7⟩ := cells8 hbl
  clear hd hea hmf hma hl hbl hFW he
  go_enter Tryd.func20, Tryd.ntmps20
  go_wp2_with fail
  refine (hX0.within ih h).mono ?_
  rintro r w1 ⟨rfl, S1, M1, hX1, -, -⟩
  clear hX0 hW m0 m1 m2 m3 m4 m5 m6 m7 d0 d1 d2 d3 d4 d5 d6 d7 c0
  go_wp2_with fail
  go_end0
  exact ⟨rfl, Fn1.pre HFW.out hX1.n1⟩

set_option maxHeartbeats 3200000 in
set_option maxRecDepth 100000 in
theorem fe_let10 (t : RS) (R : Int → List Int → Option Bool) (ih : FIh t R) (n : Nat) (nu bi f1 f2 f3 : Int) (fs : List (Int × Int × Int)) (am : List (Int × Int)) (i : Int) (sg : List Int) (b : Bool) (he : expAt t i = some ⟨10, nu, bi, f1, f2, f3, fs, am⟩) (x y : Bool) (hx : R f1 sg = some x) (hy : fWithin t R bi f2 sg = some y) (hb : b = (x || y)) : FCt t i sg b := by
  intro q root E P B cE S M bad w hd
  obtain ⟨⟨c0, -, -, -, -, -⟩, -⟩ := hd.cells
  have hq := hd.lt
  have hne := hd.ne
  obtain ⟨g, cap, m, vf, va, rfl, rfl, hm, hg, hea, ⟨hmf, hma⟩, d0, d1, d2, d3, d4, d5, d6, d7⟩ := hd.ex he
  have Hof : Hid (∀ b, vf.ownBlock = some b → b < q) := fun b hb => hd.old b (.inr (.inr (.inr ⟨vf, hmf, hb⟩)))
  have Hoa : Hid (∀ b, va.ownBlock = some b → b < q) := fun b hb => hd.old b (.inr (.inr (.inr ⟨va, hma, hb⟩)))
  have Hrf : Hid (w.ownsRow 0 96 3 vf fs.length (funCells fs)) := hea.f
  have Hra : Hid (w.ownsRow 0 92 2 va am.length (armCells am)) := hea.a
  obtain ⟨fa, fc, rfl⟩ := ownsRow_len hea.f
  obtain ⟨aa, ac, rfl⟩ := ownsRow_len hea.a
  generalize hW : w.alloc (.cells #[.int .i64 10, .int .i64 nu, .int .i64 bi, .int .i64 f1, .int .i64 f2, .int .i64 f3, .slice fa fs.length fc, .slice aa am.length ac] 80) = W
  have hFW : Fr (fun _ => False) w W := by rw [← hW]; exact (Fr.refl _ w).alloc _
  have hX0 := Fx.start (hd.fr hFW)
  have hl : ¬ fown q S M w.heap.size := fun h' => by have := (hd.own_ge _ h').2; omega
  have hbl : W.heap[w.heap.size]? = some (.cells #[.int .i64 10, .int .i64 nu, .int .i64 bi, .int .i64 f1, .int .i64 f2, .int .i64 f3, .slice fa fs.length fc, .slice aa am.length ac] 80 (0, 0)) := by rw [← hW]; exact blk_new w _
  have HFW : Hid (Fr (fun _ => False) w W) := hFW
  have HL : Hid (∀ w' S' M' sg' bad', Fx q t root (.slice (some ⟨g, 0, none⟩) t.exps.length cap) P B cE W S M w' S' M' sg' bad' → w'.heap[w.heap.size]? = some (.cells #[.int .i64 10, .int .i64 nu, .int .i64 bi, .int .i64 f1, .int .i64 f2, .int .i64 f3, .slice fa fs.length fc, .slice aa am.length ac] 80 (0, 0))) := fun w' S' M' sg' bad' hx => hx.blk hl hbl
  obtain ⟨m0, m1, m2, m3, m4, m5, m6, m7⟩ := cells8 hbl
  have Hb : Hid (b = (x || y)) := hb
  clear hb
  clear hd hea hmf hma hl hbl hFW he
  go_enter Tryd.func20, Tryd.ntmps20
  go_wp2_with fail
  refine (hX0.exp (ih _ _ _ hx)).mono ?_
  rintro r w1 ⟨rfl, S1, M1, hX1, -, -⟩
  clear hX0 hW m0 m1 m2 m3 m4 m5 m6 m7 d0 d1 d2 d3 d4 d5 d6 d7 c0
  have hbl1 := HL.out _ _ _ _ _ hX1
  obtain ⟨-, -, m2, -, m4, -, -, -⟩ := cells8 hbl1
  clear hbl1
  go_wp2_with fail
  refine (hX1.within ih hy).mono ?_
  rintro r w2 ⟨rfl, S2, M2, hX2, -, -⟩
  clear hX1 m2 m4
  go_wp2_with fail
  go_end0
  exact ⟨rfl, Fn1.pre HFW.out (by rw [Hb.out, ← Bool.or_assoc]; exact hX2.n1)⟩

set_option maxHeartbeats 3200000 in
set_option maxRecDepth 100000 in
theorem fe_let15 (t : RS) (R : Int → List Int → Option Bool) (ih : FIh t R) (n : Nat) (nu bi f1 f2 f3 : Int) (fs : List (Int × Int × Int)) (am : List (Int × Int)) (i : Int) (sg : List Int) (b : Bool) (he : expAt t i = some ⟨15, nu, bi, f1, f2, f3, fs, am⟩) (x y : Bool) (hx : R f1 sg = some x) (hy : fWithin t R bi f2 sg = some y) (hb : b = (x || y)) : FCt t i sg b := by
  intro q root E P B cE S M bad w hd
  obtain ⟨⟨c0, -, -, -, -, -⟩, -⟩ := hd.cells
  have hq := hd.lt
  have hne := hd.ne
  obtain ⟨g, cap, m, vf, va, rfl, rfl, hm, hg, hea, ⟨hmf, hma⟩, d0, d1, d2, d3, d4, d5, d6, d7⟩ := hd.ex he
  have Hof : Hid (∀ b, vf.ownBlock = some b → b < q) := fun b hb => hd.old b (.inr (.inr (.inr ⟨vf, hmf, hb⟩)))
  have Hoa : Hid (∀ b, va.ownBlock = some b → b < q) := fun b hb => hd.old b (.inr (.inr (.inr ⟨va, hma, hb⟩)))
  have Hrf : Hid (w.ownsRow 0 96 3 vf fs.length (funCells fs)) := hea.f
  have Hra : Hid (w.ownsRow 0 92 2 va am.length (armCells am)) := hea.a
  obtain ⟨fa, fc, rfl⟩ := ownsRow_len hea.f
  obtain ⟨aa, ac, rfl⟩ := ownsRow_len hea.a
  generalize hW : w.alloc (.cells #[.int .i64 15, .int .i64 nu, .int .i64 bi, .int .i64 f1, .int .i64 f2, .int .i64 f3, .slice fa fs.length fc, .slice aa am.length ac] 80) = W
  have hFW : Fr (fun _ => False) w W := by rw [← hW]; exact (Fr.refl _ w).alloc _
  have hX0 := Fx.start (hd.fr hFW)
  have hl : ¬ fown q S M w.heap.size := fun h' => by have := (hd.own_ge _ h').2; omega
  have hbl : W.heap[w.heap.size]? = some (.cells #[.int .i64 15, .int .i64 nu, .int .i64 bi, .int .i64 f1, .int .i64 f2, .int .i64 f3, .slice fa fs.length fc, .slice aa am.length ac] 80 (0, 0)) := by rw [← hW]; exact blk_new w _
  have HFW : Hid (Fr (fun _ => False) w W) := hFW
  have HL : Hid (∀ w' S' M' sg' bad', Fx q t root (.slice (some ⟨g, 0, none⟩) t.exps.length cap) P B cE W S M w' S' M' sg' bad' → w'.heap[w.heap.size]? = some (.cells #[.int .i64 15, .int .i64 nu, .int .i64 bi, .int .i64 f1, .int .i64 f2, .int .i64 f3, .slice fa fs.length fc, .slice aa am.length ac] 80 (0, 0))) := fun w' S' M' sg' bad' hx => hx.blk hl hbl
  obtain ⟨m0, m1, m2, m3, m4, m5, m6, m7⟩ := cells8 hbl
  have Hb : Hid (b = (x || y)) := hb
  clear hb
  clear hd hea hmf hma hl hbl hFW he
  go_enter Tryd.func20, Tryd.ntmps20
  go_wp2_with fail
  refine (hX0.exp (ih _ _ _ hx)).mono ?_
  rintro r w1 ⟨rfl, S1, M1, hX1, -, -⟩
  clear hX0 hW m0 m1 m2 m3 m4 m5 m6 m7 d0 d1 d2 d3 d4 d5 d6 d7 c0
  have hbl1 := HL.out _ _ _ _ _ hX1
  obtain ⟨-, -, m2, -, m4, -, -, -⟩ := cells8 hbl1
  clear hbl1
  go_wp2_with fail
  refine (hX1.within ih hy).mono ?_
  rintro r w2 ⟨rfl, S2, M2, hX2, -, -⟩
  clear hX1 m2 m4
  go_wp2_with fail
  go_end0
  exact ⟨rfl, Fn1.pre HFW.out (by rw [Hb.out, ← Bool.or_assoc]; exact hX2.n1)⟩

set_option maxHeartbeats 3200000 in
set_option maxRecDepth 100000 in
theorem fe_letRec (t : RS) (R : Int → List Int → Option Bool) (ih : FIh t R) (n : Nat) (nu bi f1 f2 f3 : Int) (fs : List (Int × Int × Int)) (am : List (Int × Int)) (i : Int) (sg : List Int) (b : Bool) (he : expAt t i = some ⟨11, nu, bi, f1, f2, f3, fs, am⟩) (h : fLetRec t R ⟨11, nu, bi, f1, f2, f3, fs, am⟩ sg = some b) : FCt t i sg b := by
  intro q root E P B cE S M bad w hd
  obtain ⟨⟨c0, -, -, -, -, -⟩, -⟩ := hd.cells
  have hq := hd.lt
  have hne := hd.ne
  obtain ⟨g, cap, m, vf, va, rfl, rfl, hm, hg, hea, ⟨hmf, hma⟩, d0, d1, d2, d3, d4, d5, d6, d7⟩ := hd.ex he
  have Hof : Hid (∀ b, vf.ownBlock = some b → b < q) := fun b hb => hd.old b (.inr (.inr (.inr ⟨vf, hmf, hb⟩)))
  have Hoa : Hid (∀ b, va.ownBlock = some b → b < q) := fun b hb => hd.old b (.inr (.inr (.inr ⟨va, hma, hb⟩)))
  have Hrf : Hid (w.ownsRow 0 96 3 vf fs.length (funCells fs)) := hea.f
  have Hra : Hid (w.ownsRow 0 92 2 va am.length (armCells am)) := hea.a
  obtain ⟨fa, fc, rfl⟩ := ownsRow_len hea.f
  obtain ⟨aa, ac, rfl⟩ := ownsRow_len hea.a
  generalize hW : w.alloc (.cells #[.int .i64 11, .int .i64 nu, .int .i64 bi, .int .i64 f1, .int .i64 f2, .int .i64 f3, .slice fa fs.length fc, .slice aa am.length ac] 80) = W
  have hFW : Fr (fun _ => False) w W := by rw [← hW]; exact (Fr.refl _ w).alloc _
  have hX0 := Fx.start (hd.fr hFW)
  have hl : ¬ fown q S M w.heap.size := fun h' => by have := (hd.own_ge _ h').2; omega
  have hbl : W.heap[w.heap.size]? = some (.cells #[.int .i64 11, .int .i64 nu, .int .i64 bi, .int .i64 f1, .int .i64 f2, .int .i64 f3, .slice fa fs.length fc, .slice aa am.length ac] 80 (0, 0)) := by rw [← hW]; exact blk_new w _
  have HFW : Hid (Fr (fun _ => False) w W) := hFW
  have HL : Hid (∀ w' S' M' sg' bad', Fx q t root (.slice (some ⟨g, 0, none⟩) t.exps.length cap) P B cE W S M w' S' M' sg' bad' → w'.heap[w.heap.size]? = some (.cells #[.int .i64 11, .int .i64 nu, .int .i64 bi, .int .i64 f1, .int .i64 f2, .int .i64 f3, .slice fa fs.length fc, .slice aa am.length ac] 80 (0, 0))) := fun w' S' M' sg' bad' hx => hx.blk hl hbl
  obtain ⟨m0, m1, m2, m3, m4, m5, m6, m7⟩ := cells8 hbl
  clear hd hea hmf hma hl hbl hFW he
  have Hrf' : Hid (W.ownsRow 0 96 3 (.slice fa fs.length fc) fs.length (funCells fs)) := ownsRow_block Hrf.out fun b hb => HFW.out.block b (Hrf.out.lt b hb).2 id
  have Hra' : Hid (W.ownsRow 0 92 2 (.slice aa am.length ac) am.length (armCells am)) := ownsRow_block Hra.out fun b hb => HFW.out.block b (Hra.out.lt b hb).2 id
  go_enter Tryd.func20, Tryd.ntmps20
  go_wp2_with fail
  refine (fletRec_any t R ih ⟨11, nu, bi, f1, f2, f3, fs, am⟩ sg b h q root _ P B cE S M bad W hX0.1 _ _ Hrf'.out Hof.out ⟨_, _, _, rfl⟩).mono ?_
  rintro r w1 ⟨rfl, hN⟩
  go_wp2_with fail
  go_end0
  exact ⟨rfl, Fn1.pre HFW.out hN⟩

set_option maxHeartbeats 3200000 in
set_option maxRecDepth 100000 in
theorem fe_match (t : RS) (R : Int → List Int → Option Bool) (ih : FIh t R) (n : Nat) (nu bi f1 f2 f3 : Int) (fs : List (Int × Int × Int)) (am : List (Int × Int)) (i : Int) (sg : List Int) (b : Bool) (he : expAt t i = some ⟨14, nu, bi, f1, f2, f3, fs, am⟩) (h : fMatch t R n ⟨14, nu, bi, f1, f2, f3, fs, am⟩ sg = some b) : FCt t i sg b := by
  intro q root E P B cE S M bad w hd
  obtain ⟨⟨c0, -, -, -, -, -⟩, -⟩ := hd.cells
  have hq := hd.lt
  have hne := hd.ne
  obtain ⟨g, cap, m, vf, va, rfl, rfl, hm, hg, hea, ⟨hmf, hma⟩, d0, d1, d2, d3, d4, d5, d6, d7⟩ := hd.ex he
  have Hof : Hid (∀ b, vf.ownBlock = some b → b < q) := fun b hb => hd.old b (.inr (.inr (.inr ⟨vf, hmf, hb⟩)))
  have Hoa : Hid (∀ b, va.ownBlock = some b → b < q) := fun b hb => hd.old b (.inr (.inr (.inr ⟨va, hma, hb⟩)))
  have Hrf : Hid (w.ownsRow 0 96 3 vf fs.length (funCells fs)) := hea.f
  have Hra : Hid (w.ownsRow 0 92 2 va am.length (armCells am)) := hea.a
  obtain ⟨fa, fc, rfl⟩ := ownsRow_len hea.f
  obtain ⟨aa, ac, rfl⟩ := ownsRow_len hea.a
  generalize hW : w.alloc (.cells #[.int .i64 14, .int .i64 nu, .int .i64 bi, .int .i64 f1, .int .i64 f2, .int .i64 f3, .slice fa fs.length fc, .slice aa am.length ac] 80) = W
  have hFW : Fr (fun _ => False) w W := by rw [← hW]; exact (Fr.refl _ w).alloc _
  have hX0 := Fx.start (hd.fr hFW)
  have hl : ¬ fown q S M w.heap.size := fun h' => by have := (hd.own_ge _ h').2; omega
  have hbl : W.heap[w.heap.size]? = some (.cells #[.int .i64 14, .int .i64 nu, .int .i64 bi, .int .i64 f1, .int .i64 f2, .int .i64 f3, .slice fa fs.length fc, .slice aa am.length ac] 80 (0, 0)) := by rw [← hW]; exact blk_new w _
  have HFW : Hid (Fr (fun _ => False) w W) := hFW
  have HL : Hid (∀ w' S' M' sg' bad', Fx q t root (.slice (some ⟨g, 0, none⟩) t.exps.length cap) P B cE W S M w' S' M' sg' bad' → w'.heap[w.heap.size]? = some (.cells #[.int .i64 14, .int .i64 nu, .int .i64 bi, .int .i64 f1, .int .i64 f2, .int .i64 f3, .slice fa fs.length fc, .slice aa am.length ac] 80 (0, 0))) := fun w' S' M' sg' bad' hx => hx.blk hl hbl
  obtain ⟨m0, m1, m2, m3, m4, m5, m6, m7⟩ := cells8 hbl
  clear hd hea hmf hma hl hbl hFW he
  have Hrf' : Hid (W.ownsRow 0 96 3 (.slice fa fs.length fc) fs.length (funCells fs)) := ownsRow_block Hrf.out fun b hb => HFW.out.block b (Hrf.out.lt b hb).2 id
  have Hra' : Hid (W.ownsRow 0 92 2 (.slice aa am.length ac) am.length (armCells am)) := ownsRow_block Hra.out fun b hb => HFW.out.block b (Hra.out.lt b hb).2 id
  go_enter Tryd.func20, Tryd.ntmps20
  go_wp2_with fail
  refine (fmatch_any t R ih n ⟨14, nu, bi, f1, f2, f3, fs, am⟩ sg b h q root _ P B cE S M bad W hX0.1 _ _ Hra'.out Hoa.out ⟨_, _, _, rfl⟩).mono ?_
  rintro r w1 ⟨rfl, hN⟩
  go_wp2_with fail
  go_end0
  exact ⟨rfl, Fn1.pre HFW.out hN⟩

set_option maxHeartbeats 3200000 in
set_option maxRecDepth 100000 in
theorem fe_name (t : RS) (R : Int → List Int → Option Bool) (ih : FIh t R) (n : Nat) (nu bi f1 f2 f3 : Int) (fs : List (Int × Int × Int)) (am : List (Int × Int)) (i : Int) (sg : List Int) (b : Bool) (he : expAt t i = some ⟨4, nu, bi, f1, f2, f3, fs, am⟩) (hb : b = fInner t sg nu) : FCt t i sg b := by
  intro q root E P B cE S M bad w hd
  obtain ⟨⟨c0, -, -, -, -, -⟩, -⟩ := hd.cells
  have hq := hd.lt
  have hne := hd.ne
  obtain ⟨g, cap, m, vf, va, rfl, rfl, hm, hg, hea, ⟨hmf, hma⟩, d0, d1, d2, d3, d4, d5, d6, d7⟩ := hd.ex he
  have Hof : Hid (∀ b, vf.ownBlock = some b → b < q) := fun b hb => hd.old b (.inr (.inr (.inr ⟨vf, hmf, hb⟩)))
  have Hoa : Hid (∀ b, va.ownBlock = some b → b < q) := fun b hb => hd.old b (.inr (.inr (.inr ⟨va, hma, hb⟩)))
  have Hrf : Hid (w.ownsRow 0 96 3 vf fs.length (funCells fs)) := hea.f
  have Hra : Hid (w.ownsRow 0 92 2 va am.length (armCells am)) := hea.a
  obtain ⟨fa, fc, rfl⟩ := ownsRow_len hea.f
  obtain ⟨aa, ac, rfl⟩ := ownsRow_len hea.a
  generalize hW : w.alloc (.cells #[.int .i64 4, .int .i64 nu, .int .i64 bi, .int .i64 f1, .int .i64 f2, .int .i64 f3, .slice fa fs.length fc, .slice aa am.length ac] 80) = W
  have hFW : Fr (fun _ => False) w W := by rw [← hW]; exact (Fr.refl _ w).alloc _
  have hX0 := Fx.start (hd.fr hFW)
  have hl : ¬ fown q S M w.heap.size := fun h' => by have := (hd.own_ge _ h').2; omega
  have hbl : W.heap[w.heap.size]? = some (.cells #[.int .i64 4, .int .i64 nu, .int .i64 bi, .int .i64 f1, .int .i64 f2, .int .i64 f3, .slice fa fs.length fc, .slice aa am.length ac] 80 (0, 0)) := by rw [← hW]; exact blk_new w _
  have HFW : Hid (Fr (fun _ => False) w W) := hFW
  have HL : Hid (∀ w' S' M' sg' bad', Fx q t root (.slice (some ⟨g, 0, none⟩) t.exps.length cap) P B cE W S M w' S' M' sg' bad' → w'.heap[w.heap.size]? = some (.cells #[.int .i64 4, .int .i64 nu, .int .i64 bi, .int .i64 f1, .int .i64 f2, .int .i64 f3, .slice fa fs.length fc, .slice aa am.length ac] 80 (0, 0))) := fun w' S' M' sg' bad' hx => hx.blk hl hbl
  obtain ⟨m0, m1, m2, m3, m4, m5, m6, m7⟩ := cells8 hbl
  have Hb : Hid (b = fInner t sg nu) := hb
  clear hb
  clear hd hea hmf hma hl hbl hFW he
  go_enter Tryd.func20, Tryd.ntmps20
  go_wp2_with fail
  refine (hX0.inner nu).mono ?_
  rintro r w1 ⟨rv, rfl, S1, M1, hX1, -, -⟩
  clear hX0 hW m0 m1 m2 m3 m4 m5 m6 m7 d0 d1 d2 d3 d4 d5 d6 d7 c0
  obtain ⟨⟨-, -, -, -, c5, -⟩, -⟩ := hX1.1.cells
  obtain ⟨mb, mc, rfl, hmb, ⟨v0, hv0⟩, hfz, hX2⟩ := hX1.means hm rv
  have HX2 : Hid (Fx q t root (.slice (some ⟨g, 0, none⟩) t.exps.length cap) P B cE W S M (w1.setCell ⟨mb, m, none⟩ (.int .i64 rv)) S1 (.slice (some ⟨mb, 0, none⟩) t.exps.length mc) sg (bad || fInner t sg nu)) := hX2
  clear hX2 hX1 HL
  go_wp2_with fail
  go_end0
  exact ⟨rfl, Fn1.pre HFW.out (by rw [Hb.out]; exact HX2.out.n1)⟩

set_option maxHeartbeats 3200000 in
set_option maxRecDepth 100000 in
theorem fe_none (t : RS) (R : Int → List Int → Option Bool) (ih : FIh t R) (n : Nat) (k : Int) (nu bi f1 f2 f3 : Int) (fs : List (Int × Int × Int)) (am : List (Int × Int)) (i : Int) (sg : List Int) (b : Bool) (he : expAt t i = some ⟨k, nu, bi, f1, f2, f3, fs, am⟩) (hb : b = false) (n4 : ¬ k = 4) (n22 : ¬ k = 22) (n23 : ¬ k = 23) (n24 : ¬ k = 24) (n7 : ¬ k = 7) (n8 : ¬ k = 8) (n16 : ¬ k = 16) (n17 : ¬ k = 17) (n18 : ¬ k = 18) (n19 : ¬ k = 19) (n20 : ¬ k = 20) (n21 : ¬ k = 21) (n25 : ¬ k = 25) (n26 : ¬ k = 26) (n13 : ¬ k = 13) (n12 : ¬ k = 12) (n10 : ¬ k = 10) (n15 : ¬ k = 15) (n11 : ¬ k = 11) (n14 : ¬ k = 14) : FCt t i sg b := by
  intro q root E P B cE S M bad w hd
  obtain ⟨⟨c0, -, -, -, -, -⟩, -⟩ := hd.cells
  have hq := hd.lt
  have hne := hd.ne
  obtain ⟨g, cap, m, vf, va, rfl, rfl, hm, hg, hea, ⟨hmf, hma⟩, d0, d1, d2, d3, d4, d5, d6, d7⟩ := hd.ex he
  have Hof : Hid (∀ b, vf.ownBlock = some b → b < q) := fun b hb => hd.old b (.inr (.inr (.inr ⟨vf, hmf, hb⟩)))
  have Hoa : Hid (∀ b, va.ownBlock = some b → b < q) := fun b hb => hd.old b (.inr (.inr (.inr ⟨va, hma, hb⟩)))
  have Hrf : Hid (w.ownsRow 0 96 3 vf fs.length (funCells fs)) := hea.f
  have Hra : Hid (w.ownsRow 0 92 2 va am.length (armCells am)) := hea.a
  obtain ⟨fa, fc, rfl⟩ := ownsRow_len hea.f
  obtain ⟨aa, ac, rfl⟩ := ownsRow_len hea.a
  generalize hW : w.alloc (.cells #[.int .i64 k, .int .i64 nu, .int .i64 bi, .int .i64 f1, .int .i64 f2, .int .i64 f3, .slice fa fs.length fc, .slice aa am.length ac] 80) = W
  have hFW : Fr (fun _ => False) w W := by rw [← hW]; exact (Fr.refl _ w).alloc _
  have hX0 := Fx.start (hd.fr hFW)
  have hl : ¬ fown q S M w.heap.size := fun h' => by have := (hd.own_ge _ h').2; omega
  have hbl : W.heap[w.heap.size]? = some (.cells #[.int .i64 k, .int .i64 nu, .int .i64 bi, .int .i64 f1, .int .i64 f2, .int .i64 f3, .slice fa fs.length fc, .slice aa am.length ac] 80 (0, 0)) := by rw [← hW]; exact blk_new w _
  have HFW : Hid (Fr (fun _ => False) w W) := hFW
  have HL : Hid (∀ w' S' M' sg' bad', Fx q t root (.slice (some ⟨g, 0, none⟩) t.exps.length cap) P B cE W S M w' S' M' sg' bad' → w'.heap[w.heap.size]? = some (.cells #[.int .i64 k, .int .i64 nu, .int .i64 bi, .int .i64 f1, .int .i64 f2, .int .i64 f3, .slice fa fs.length fc, .slice aa am.length ac] 80 (0, 0))) := fun w' S' M' sg' bad' hx => hx.blk hl hbl
  obtain ⟨m0, m1, m2, m3, m4, m5, m6, m7⟩ := cells8 hbl
  have Hb : Hid (b = false) := hb
  clear hb
  clear hd hea hmf hma hl hbl hFW he
  go_enter Tryd.func20, Tryd.ntmps20
  go_wp2_with fail
  go_end0
  exact ⟨rfl, Fn1.pre HFW.out (by rw [Hb.out, Bool.or_false]; exact hX0.n1)⟩

end Go.Proofs.YtnbhnjokpcdnnaaDoor
