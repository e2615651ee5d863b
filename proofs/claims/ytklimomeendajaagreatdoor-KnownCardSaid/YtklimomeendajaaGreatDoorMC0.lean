import Derived.Test.YtklimomeendajaaGreatDoorMB9
import Derived.Test.YtklimomeendajaaGreatDoorMB4
set_option linter.unusedVariables false
set_option linter.unusedSimpArgs false
/- exp (made by tools/mk_exp2.py). -/
namespace Go.Proofs.YtklimomeendajaaGreatDoor
open Go.RowKit

section
variable {K : TC} {q : Nat} {f : FX} {fx : List Int} {R : FX → List Int → Int → Option (FX × Int)} {n : Nat} {i : Int} {nu bi e1 e2 e3 : Int} {fs : List (Int × Int × Int)} {am : List (Int × Int)}

set_option maxHeartbeats 1600000 in
set_option maxRecDepth 100000 in
theorem exp_int1 (ih : TIh K q R) {kk : Int} (he  : expAt K.t i = some ⟨kk, nu, bi, e1, e2, e3, fs, am⟩) (hk : kk = 1) : TCt K q f fx i (f, 0) := by
  intro w D h
  obtain ⟨g, cap, m, vf, va, hE, rfl, hm, hg, hea, ⟨hmf, hma⟩, d0, d1, d2, d3, d4, d5, d6, d7⟩ := h.tr.ex he
  obtain ⟨⟨c0, -, -, c4, c8, -, -⟩, -⟩ := h.cells
  rw [hE] at c0
  have hq := h.lt
  have hne := h.ne
  have HT : Hid (Ty K q w f fx D) := h
  have Hrf : Hid (w.ownsRow 0 165 3 vf fs.length (funCells fs)) := hea.f
  have Hra : Hid (w.ownsRow 0 264 2 va am.length (armCells am)) := hea.a
  have Hof : Hid (∀ b, vf.ownBlock = some b → b < K.b0) := fun b hb => h.old b (.inr (.inr (.inr ⟨vf, hmf, hb⟩)))
  have Hoa : Hid (∀ b, va.ownBlock = some b → b < K.b0) := fun b hb => h.old b (.inr (.inr (.inr ⟨va, hma, hb⟩)))
  obtain ⟨fa, fc, rfl⟩ := ownsRow_len hea.f
  obtain ⟨aa, ac, rfl⟩ := ownsRow_len hea.a
  clear h he hea hE hmf hma
  rcases hk with rfl
  all_goals
    generalize hW : w.alloc (.cells #[.int .i64 1, .int .i64 nu, .int .i64 bi, .int .i64 e1, .int .i64 e2, .int .i64 e3, .slice fa fs.length fc, .slice aa am.length ac] 162) = W
    have HFW : Hid (Fr (fun _ => False) w W) := by rw [← hW]; exact (Fr.refl _ w).alloc _
    have hbl := blk_new w (.cells #[.int .i64 1, .int .i64 nu, .int .i64 bi, .int .i64 e1, .int .i64 e2, .int .i64 e3, .slice fa fs.length fc, .slice aa am.length ac] 162)
    rw [hW] at hbl
    have HX0 : Hid (Tx K q W D W D f fx) := Tx.start (HT.out.fr HFW.out)
    have hn := HT.out.loc (Nat.le_refl _)
    have HL : Hid (∀ w' D' f' fx', Tx K q W D w' D' f' fx' → w'.heap[w.heap.size]? = W.heap[w.heap.size]?) := fun _ _ _ _ hx => (hx.blk hn hbl).trans hbl.symm
    have HBL : Hid _ := hbl
    obtain ⟨m0, m1, m2, m3, m4, m5, m6, m7⟩ := cells8 hbl
    have hl0 := blk_lt hbl
    have hq0 := HX0.out.1.lt
    clear hn hbl
    go_enter Tryz.func73, Tryz.ntmps73
    go_wp2_with fail
    go_ret
    exact ⟨rfl, HX0.out.n.pre (HFW.out.mono (fun _ h => h.elim))⟩

set_option maxHeartbeats 1600000 in
set_option maxRecDepth 100000 in
theorem exp_int9 (ih : TIh K q R) {kk : Int} (he  : expAt K.t i = some ⟨kk, nu, bi, e1, e2, e3, fs, am⟩) (hk : kk = 9) : TCt K q f fx i (f, 0) := by
  intro w D h
  obtain ⟨g, cap, m, vf, va, hE, rfl, hm, hg, hea, ⟨hmf, hma⟩, d0, d1, d2, d3, d4, d5, d6, d7⟩ := h.tr.ex he
  obtain ⟨⟨c0, -, -, c4, c8, -, -⟩, -⟩ := h.cells
  rw [hE] at c0
  have hq := h.lt
  have hne := h.ne
  have HT : Hid (Ty K q w f fx D) := h
  have Hrf : Hid (w.ownsRow 0 165 3 vf fs.length (funCells fs)) := hea.f
  have Hra : Hid (w.ownsRow 0 264 2 va am.length (armCells am)) := hea.a
  have Hof : Hid (∀ b, vf.ownBlock = some b → b < K.b0) := fun b hb => h.old b (.inr (.inr (.inr ⟨vf, hmf, hb⟩)))
  have Hoa : Hid (∀ b, va.ownBlock = some b → b < K.b0) := fun b hb => h.old b (.inr (.inr (.inr ⟨va, hma, hb⟩)))
  obtain ⟨fa, fc, rfl⟩ := ownsRow_len hea.f
  obtain ⟨aa, ac, rfl⟩ := ownsRow_len hea.a
  clear h he hea hE hmf hma
  rcases hk with rfl
  all_goals
    generalize hW : w.alloc (.cells #[.int .i64 9, .int .i64 nu, .int .i64 bi, .int .i64 e1, .int .i64 e2, .int .i64 e3, .slice fa fs.length fc, .slice aa am.length ac] 162) = W
    have HFW : Hid (Fr (fun _ => False) w W) := by rw [← hW]; exact (Fr.refl _ w).alloc _
    have hbl := blk_new w (.cells #[.int .i64 9, .int .i64 nu, .int .i64 bi, .int .i64 e1, .int .i64 e2, .int .i64 e3, .slice fa fs.length fc, .slice aa am.length ac] 162)
    rw [hW] at hbl
    have HX0 : Hid (Tx K q W D W D f fx) := Tx.start (HT.out.fr HFW.out)
    have hn := HT.out.loc (Nat.le_refl _)
    have HL : Hid (∀ w' D' f' fx', Tx K q W D w' D' f' fx' → w'.heap[w.heap.size]? = W.heap[w.heap.size]?) := fun _ _ _ _ hx => (hx.blk hn hbl).trans hbl.symm
    have HBL : Hid _ := hbl
    obtain ⟨m0, m1, m2, m3, m4, m5, m6, m7⟩ := cells8 hbl
    have hl0 := blk_lt hbl
    have hq0 := HX0.out.1.lt
    clear hn hbl
    go_enter Tryz.func73, Tryz.ntmps73
    go_wp2_with fail
    go_ret
    exact ⟨rfl, HX0.out.n.pre (HFW.out.mono (fun _ h => h.elim))⟩

set_option maxHeartbeats 1600000 in
set_option maxRecDepth 100000 in
theorem exp_bool2 (ih : TIh K q R) {kk : Int} (he  : expAt K.t i = some ⟨kk, nu, bi, e1, e2, e3, fs, am⟩) (hk : kk = 2) : TCt K q f fx i (f, 1) := by
  intro w D h
  obtain ⟨g, cap, m, vf, va, hE, rfl, hm, hg, hea, ⟨hmf, hma⟩, d0, d1, d2, d3, d4, d5, d6, d7⟩ := h.tr.ex he
  obtain ⟨⟨c0, -, -, c4, c8, -, -⟩, -⟩ := h.cells
  rw [hE] at c0
  have hq := h.lt
  have hne := h.ne
  have HT : Hid (Ty K q w f fx D) := h
  have Hrf : Hid (w.ownsRow 0 165 3 vf fs.length (funCells fs)) := hea.f
  have Hra : Hid (w.ownsRow 0 264 2 va am.length (armCells am)) := hea.a
  have Hof : Hid (∀ b, vf.ownBlock = some b → b < K.b0) := fun b hb => h.old b (.inr (.inr (.inr ⟨vf, hmf, hb⟩)))
  have Hoa : Hid (∀ b, va.ownBlock = some b → b < K.b0) := fun b hb => h.old b (.inr (.inr (.inr ⟨va, hma, hb⟩)))
  obtain ⟨fa, fc, rfl⟩ := ownsRow_len hea.f
  obtain ⟨aa, ac, rfl⟩ := ownsRow_len hea.a
  clear h he hea hE hmf hma
  rcases hk with rfl
  all_goals
    generalize hW : w.alloc (.cells #[.int .i64 2, .int .i64 nu, .int .i64 bi, .int .i64 e1, .int .i64 e2, .int .i64 e3, .slice fa fs.length fc, .slice aa am.length ac] 162) = W
    have HFW : Hid (Fr (fun _ => False) w W) := by rw [← hW]; exact (Fr.refl _ w).alloc _
    have hbl := blk_new w (.cells #[.int .i64 2, .int .i64 nu, .int .i64 bi, .int .i64 e1, .int .i64 e2, .int .i64 e3, .slice fa fs.length fc, .slice aa am.length ac] 162)
    rw [hW] at hbl
    have HX0 : Hid (Tx K q W D W D f fx) := Tx.start (HT.out.fr HFW.out)
    have hn := HT.out.loc (Nat.le_refl _)
    have HL : Hid (∀ w' D' f' fx', Tx K q W D w' D' f' fx' → w'.heap[w.heap.size]? = W.heap[w.heap.size]?) := fun _ _ _ _ hx => (hx.blk hn hbl).trans hbl.symm
    have HBL : Hid _ := hbl
    obtain ⟨m0, m1, m2, m3, m4, m5, m6, m7⟩ := cells8 hbl
    have hl0 := blk_lt hbl
    have hq0 := HX0.out.1.lt
    clear hn hbl
    go_enter Tryz.func73, Tryz.ntmps73
    go_wp2_with fail
    go_ret
    exact ⟨rfl, HX0.out.n.pre (HFW.out.mono (fun _ h => h.elim))⟩

set_option maxHeartbeats 1600000 in
set_option maxRecDepth 100000 in
theorem exp_bool3 (ih : TIh K q R) {kk : Int} (he  : expAt K.t i = some ⟨kk, nu, bi, e1, e2, e3, fs, am⟩) (hk : kk = 3) : TCt K q f fx i (f, 1) := by
  intro w D h
  obtain ⟨g, cap, m, vf, va, hE, rfl, hm, hg, hea, ⟨hmf, hma⟩, d0, d1, d2, d3, d4, d5, d6, d7⟩ := h.tr.ex he
  obtain ⟨⟨c0, -, -, c4, c8, -, -⟩, -⟩ := h.cells
  rw [hE] at c0
  have hq := h.lt
  have hne := h.ne
  have HT : Hid (Ty K q w f fx D) := h
  have Hrf : Hid (w.ownsRow 0 165 3 vf fs.length (funCells fs)) := hea.f
  have Hra : Hid (w.ownsRow 0 264 2 va am.length (armCells am)) := hea.a
  have Hof : Hid (∀ b, vf.ownBlock = some b → b < K.b0) := fun b hb => h.old b (.inr (.inr (.inr ⟨vf, hmf, hb⟩)))
  have Hoa : Hid (∀ b, va.ownBlock = some b → b < K.b0) := fun b hb => h.old b (.inr (.inr (.inr ⟨va, hma, hb⟩)))
  obtain ⟨fa, fc, rfl⟩ := ownsRow_len hea.f
  obtain ⟨aa, ac, rfl⟩ := ownsRow_len hea.a
  clear h he hea hE hmf hma
  rcases hk with rfl
  all_goals
    generalize hW : w.alloc (.cells #[.int .i64 3, .int .i64 nu, .int .i64 bi, .int .i64 e1, .int .i64 e2, .int .i64 e3, .slice fa fs.length fc, .slice aa am.length ac] 162) = W
    have HFW : Hid (Fr (fun _ => False) w W) := by rw [← hW]; exact (Fr.refl _ w).alloc _
    have hbl := blk_new w (.cells #[.int .i64 3, .int .i64 nu, .int .i64 bi, .int .i64 e1, .int .i64 e2, .int .i64 e3, .slice fa fs.length fc, .slice aa am.length ac] 162)
    rw [hW] at hbl
    have HX0 : Hid (Tx K q W D W D f fx) := Tx.start (HT.out.fr HFW.out)
    have hn := HT.out.loc (Nat.le_refl _)
    have HL : Hid (∀ w' D' f' fx', Tx K q W D w' D' f' fx' → w'.heap[w.heap.size]? = W.heap[w.heap.size]?) := fun _ _ _ _ hx => (hx.blk hn hbl).trans hbl.symm
    have HBL : Hid _ := hbl
    obtain ⟨m0, m1, m2, m3, m4, m5, m6, m7⟩ := cells8 hbl
    have hl0 := blk_lt hbl
    have hq0 := HX0.out.1.lt
    clear hn hbl
    go_enter Tryz.func73, Tryz.ntmps73
    go_wp2_with fail
    go_ret
    exact ⟨rfl, HX0.out.n.pre (HFW.out.mono (fun _ h => h.elim))⟩

set_option maxHeartbeats 1600000 in
set_option maxRecDepth 100000 in
theorem exp_empty5 (ih : TIh K q R) {kk : Int} {f0 f1 : FX} {t0 t1 : Int} (h1 : yNew f {} = some (f0, t0) ∧ yNew f0 { k := 3, a := t0 } = some (f1, t1)) (he  : expAt K.t i = some ⟨kk, nu, bi, e1, e2, e3, fs, am⟩) (hk : kk = 5) : TCt K q f fx i (f1, t1) := by
  intro w D h
  have H1 : Hid (yNew f {} = some (f0, t0) ∧ yNew f0 { k := 3, a := t0 } = some (f1, t1)) := h1
  obtain ⟨g, cap, m, vf, va, hE, rfl, hm, hg, hea, ⟨hmf, hma⟩, d0, d1, d2, d3, d4, d5, d6, d7⟩ := h.tr.ex he
  obtain ⟨⟨c0, -, -, c4, c8, -, -⟩, -⟩ := h.cells
  rw [hE] at c0
  have hq := h.lt
  have hne := h.ne
  have HT : Hid (Ty K q w f fx D) := h
  have Hrf : Hid (w.ownsRow 0 165 3 vf fs.length (funCells fs)) := hea.f
  have Hra : Hid (w.ownsRow 0 264 2 va am.length (armCells am)) := hea.a
  have Hof : Hid (∀ b, vf.ownBlock = some b → b < K.b0) := fun b hb => h.old b (.inr (.inr (.inr ⟨vf, hmf, hb⟩)))
  have Hoa : Hid (∀ b, va.ownBlock = some b → b < K.b0) := fun b hb => h.old b (.inr (.inr (.inr ⟨va, hma, hb⟩)))
  obtain ⟨fa, fc, rfl⟩ := ownsRow_len hea.f
  obtain ⟨aa, ac, rfl⟩ := ownsRow_len hea.a
  clear h he hea hE hmf hma h1
  rcases hk with rfl
  all_goals
    generalize hW : w.alloc (.cells #[.int .i64 5, .int .i64 nu, .int .i64 bi, .int .i64 e1, .int .i64 e2, .int .i64 e3, .slice fa fs.length fc, .slice aa am.length ac] 162) = W
    have HFW : Hid (Fr (fun _ => False) w W) := by rw [← hW]; exact (Fr.refl _ w).alloc _
    have hbl := blk_new w (.cells #[.int .i64 5, .int .i64 nu, .int .i64 bi, .int .i64 e1, .int .i64 e2, .int .i64 e3, .slice fa fs.length fc, .slice aa am.length ac] 162)
    rw [hW] at hbl
    have HX0 : Hid (Tx K q W D W D f fx) := Tx.start (HT.out.fr HFW.out)
    have hn := HT.out.loc (Nat.le_refl _)
    have HL : Hid (∀ w' D' f' fx', Tx K q W D w' D' f' fx' → w'.heap[w.heap.size]? = W.heap[w.heap.size]?) := fun _ _ _ _ hx => (hx.blk hn hbl).trans hbl.symm
    have HBL : Hid _ := hbl
    obtain ⟨m0, m1, m2, m3, m4, m5, m6, m7⟩ := cells8 hbl
    have hl0 := blk_lt hbl
    have hq0 := HX0.out.1.lt
    clear hn hbl
    go_enter Tryz.func73, Tryz.ntmps73
    go_wp2_with fail
    refine (HX0.out.empty H1.out.1 H1.out.2).mono ?_
    rintro r1 w1 ⟨rfl, D1, hX1⟩
    have HX1 : Hid (Tx K q W D w1 D1 f1 fx) := hX1
    have hb1 := (HL.out _ _ _ _ hX1).trans HBL.out
    have hq1 := hX1.1.lt
    have hl1 := blk_lt hb1
    clear m0 m1 m2 m3 m4 m5 m6 m7 hX1 HX0 hq0 hl0 hW
    obtain ⟨m0, m1, m2, m3, m4, m5, m6, m7⟩ := cells8 hb1
    clear hb1
    go_wp2_with fail
    go_ret
    exact ⟨rfl, HX1.out.n.pre (HFW.out.mono (fun _ h => h.elim))⟩

set_option maxHeartbeats 1600000 in
set_option maxRecDepth 100000 in
theorem exp_cmp16 (ih : TIh K q R) {kk : Int} {f1 f2 : FX} (h1 : yWant n R f fx e1 0 = some f1) (h2 : yWant n R f1 fx e2 0 = some f2) (he  : expAt K.t i = some ⟨kk, nu, bi, e1, e2, e3, fs, am⟩) (hk : kk = 16) : TCt K q f fx i (f2, 1) := by
  intro w D h
  have H1 : Hid (yWant n R f fx e1 0 = some f1) := h1
  have H2 : Hid (yWant n R f1 fx e2 0 = some f2) := h2
  obtain ⟨g, cap, m, vf, va, hE, rfl, hm, hg, hea, ⟨hmf, hma⟩, d0, d1, d2, d3, d4, d5, d6, d7⟩ := h.tr.ex he
  obtain ⟨⟨c0, -, -, c4, c8, -, -⟩, -⟩ := h.cells
  rw [hE] at c0
  have hq := h.lt
  have hne := h.ne
  have HT : Hid (Ty K q w f fx D) := h
  have Hrf : Hid (w.ownsRow 0 165 3 vf fs.length (funCells fs)) := hea.f
  have Hra : Hid (w.ownsRow 0 264 2 va am.length (armCells am)) := hea.a
  have Hof : Hid (∀ b, vf.ownBlock = some b → b < K.b0) := fun b hb => h.old b (.inr (.inr (.inr ⟨vf, hmf, hb⟩)))
  have Hoa : Hid (∀ b, va.ownBlock = some b → b < K.b0) := fun b hb => h.old b (.inr (.inr (.inr ⟨va, hma, hb⟩)))
  obtain ⟨fa, fc, rfl⟩ := ownsRow_len hea.f
  obtain ⟨aa, ac, rfl⟩ := ownsRow_len hea.a
  clear h he hea hE hmf hma h1 h2
  rcases hk with rfl
  all_goals
    generalize hW : w.alloc (.cells #[.int .i64 16, .int .i64 nu, .int .i64 bi, .int .i64 e1, .int .i64 e2, .int .i64 e3, .slice fa fs.length fc, .slice aa am.length ac] 162) = W
    have HFW : Hid (Fr (fun _ => False) w W) := by rw [← hW]; exact (Fr.refl _ w).alloc _
    have hbl := blk_new w (.cells #[.int .i64 16, .int .i64 nu, .int .i64 bi, .int .i64 e1, .int .i64 e2, .int .i64 e3, .slice fa fs.length fc, .slice aa am.length ac] 162)
    rw [hW] at hbl
    have HX0 : Hid (Tx K q W D W D f fx) := Tx.start (HT.out.fr HFW.out)
    have hn := HT.out.loc (Nat.le_refl _)
    have HL : Hid (∀ w' D' f' fx', Tx K q W D w' D' f' fx' → w'.heap[w.heap.size]? = W.heap[w.heap.size]?) := fun _ _ _ _ hx => (hx.blk hn hbl).trans hbl.symm
    have HBL : Hid _ := hbl
    obtain ⟨m0, m1, m2, m3, m4, m5, m6, m7⟩ := cells8 hbl
    have hl0 := blk_lt hbl
    have hq0 := HX0.out.1.lt
    clear hn hbl
    go_enter Tryz.func73, Tryz.ntmps73
    go_wp2_with fail
    refine (HX0.out.want ih H1.out).mono ?_
    rintro r1 w1 ⟨rfl, D1, hX1⟩
    have HX1 : Hid (Tx K q W D w1 D1 f1 fx) := hX1
    have hb1 := (HL.out _ _ _ _ hX1).trans HBL.out
    have hq1 := hX1.1.lt
    have hl1 := blk_lt hb1
    clear m0 m1 m2 m3 m4 m5 m6 m7 hX1 HX0 hq0 hl0 hW
    obtain ⟨m0, m1, m2, m3, m4, m5, m6, m7⟩ := cells8 hb1
    clear hb1
    go_wp2_with fail
    refine (HX1.out.want ih H2.out).mono ?_
    rintro r2 w2 ⟨rfl, D2, hX2⟩
    have HX2 : Hid (Tx K q W D w2 D2 f2 fx) := hX2
    have hb2 := (HL.out _ _ _ _ hX2).trans HBL.out
    have hq2 := hX2.1.lt
    have hl2 := blk_lt hb2
    clear m0 m1 m2 m3 m4 m5 m6 m7 hX2 HX1 hq1 hl1
    obtain ⟨m0, m1, m2, m3, m4, m5, m6, m7⟩ := cells8 hb2
    clear hb2
    go_wp2_with fail
    go_ret
    exact ⟨rfl, HX2.out.n.pre (HFW.out.mono (fun _ h => h.elim))⟩

set_option maxHeartbeats 1600000 in
set_option maxRecDepth 100000 in
theorem exp_cmp17 (ih : TIh K q R) {kk : Int} {f1 f2 : FX} (h1 : yWant n R f fx e1 0 = some f1) (h2 : yWant n R f1 fx e2 0 = some f2) (he  : expAt K.t i = some ⟨kk, nu, bi, e1, e2, e3, fs, am⟩) (hk : kk = 17) : TCt K q f fx i (f2, 1) := by
  intro w D h
  have H1 : Hid (yWant n R f fx e1 0 = some f1) := h1
  have H2 : Hid (yWant n R f1 fx e2 0 = some f2) := h2
  obtain ⟨g, cap, m, vf, va, hE, rfl, hm, hg, hea, ⟨hmf, hma⟩, d0, d1, d2, d3, d4, d5, d6, d7⟩ := h.tr.ex he
  obtain ⟨⟨c0, -, -, c4, c8, -, -⟩, -⟩ := h.cells
  rw [hE] at c0
  have hq := h.lt
  have hne := h.ne
  have HT : Hid (Ty K q w f fx D) := h
  have Hrf : Hid (w.ownsRow 0 165 3 vf fs.length (funCells fs)) := hea.f
  have Hra : Hid (w.ownsRow 0 264 2 va am.length (armCells am)) := hea.a
  have Hof : Hid (∀ b, vf.ownBlock = some b → b < K.b0) := fun b hb => h.old b (.inr (.inr (.inr ⟨vf, hmf, hb⟩)))
  have Hoa : Hid (∀ b, va.ownBlock = some b → b < K.b0) := fun b hb => h.old b (.inr (.inr (.inr ⟨va, hma, hb⟩)))
  obtain ⟨fa, fc, rfl⟩ := ownsRow_len hea.f
  obtain ⟨aa, ac, rfl⟩ := ownsRow_len hea.a
  clear h he hea hE hmf hma h1 h2
  rcases hk with rfl
  all_goals
    generalize hW : w.alloc (.cells #[.int .i64 17, .int .i64 nu, .int .i64 bi, .int .i64 e1, .int .i64 e2, .int .i64 e3, .slice fa fs.length fc, .slice aa am.length ac] 162) = W
    have HFW : Hid (Fr (fun _ => False) w W) := by rw [← hW]; exact (Fr.refl _ w).alloc _
    have hbl := blk_new w (.cells #[.int .i64 17, .int .i64 nu, .int .i64 bi, .int .i64 e1, .int .i64 e2, .int .i64 e3, .slice fa fs.length fc, .slice aa am.length ac] 162)
    rw [hW] at hbl
    have HX0 : Hid (Tx K q W D W D f fx) := Tx.start (HT.out.fr HFW.out)
    have hn := HT.out.loc (Nat.le_refl _)
    have HL : Hid (∀ w' D' f' fx', Tx K q W D w' D' f' fx' → w'.heap[w.heap.size]? = W.heap[w.heap.size]?) := fun _ _ _ _ hx => (hx.blk hn hbl).trans hbl.symm
    have HBL : Hid _ := hbl
    obtain ⟨m0, m1, m2, m3, m4, m5, m6, m7⟩ := cells8 hbl
    have hl0 := blk_lt hbl
    have hq0 := HX0.out.1.lt
    clear hn hbl
    go_enter Tryz.func73, Tryz.ntmps73
    go_wp2_with fail
    refine (HX0.out.want ih H1.out).mono ?_
    rintro r1 w1 ⟨rfl, D1, hX1⟩
    have HX1 : Hid (Tx K q W D w1 D1 f1 fx) := hX1
    have hb1 := (HL.out _ _ _ _ hX1).trans HBL.out
    have hq1 := hX1.1.lt
    have hl1 := blk_lt hb1
    clear m0 m1 m2 m3 m4 m5 m6 m7 hX1 HX0 hq0 hl0 hW
    obtain ⟨m0, m1, m2, m3, m4, m5, m6, m7⟩ := cells8 hb1
    clear hb1
    go_wp2_with fail
    refine (HX1.out.want ih H2.out).mono ?_
    rintro r2 w2 ⟨rfl, D2, hX2⟩
    have HX2 : Hid (Tx K q W D w2 D2 f2 fx) := hX2
    have hb2 := (HL.out _ _ _ _ hX2).trans HBL.out
    have hq2 := hX2.1.lt
    have hl2 := blk_lt hb2
    clear m0 m1 m2 m3 m4 m5 m6 m7 hX2 HX1 hq1 hl1
    obtain ⟨m0, m1, m2, m3, m4, m5, m6, m7⟩ := cells8 hb2
    clear hb2
    go_wp2_with fail
    go_ret
    exact ⟨rfl, HX2.out.n.pre (HFW.out.mono (fun _ h => h.elim))⟩

set_option maxHeartbeats 1600000 in
set_option maxRecDepth 100000 in
theorem exp_op18 (ih : TIh K q R) {kk : Int} {f1 f2 : FX} (h1 : yWant n R f fx e1 0 = some f1) (h2 : yWant n R f1 fx e2 0 = some f2) (he  : expAt K.t i = some ⟨kk, nu, bi, e1, e2, e3, fs, am⟩) (hk : kk = 18) : TCt K q f fx i (f2, 0) := by
  intro w D h
  have H1 : Hid (yWant n R f fx e1 0 = some f1) := h1
  have H2 : Hid (yWant n R f1 fx e2 0 = some f2) := h2
  obtain ⟨g, cap, m, vf, va, hE, rfl, hm, hg, hea, ⟨hmf, hma⟩, d0, d1, d2, d3, d4, d5, d6, d7⟩ := h.tr.ex he
  obtain ⟨⟨c0, -, -, c4, c8, -, -⟩, -⟩ := h.cells
  rw [hE] at c0
  have hq := h.lt
  have hne := h.ne
  have HT : Hid (Ty K q w f fx D) := h
  have Hrf : Hid (w.ownsRow 0 165 3 vf fs.length (funCells fs)) := hea.f
  have Hra : Hid (w.ownsRow 0 264 2 va am.length (armCells am)) := hea.a
  have Hof : Hid (∀ b, vf.ownBlock = some b → b < K.b0) := fun b hb => h.old b (.inr (.inr (.inr ⟨vf, hmf, hb⟩)))
  have Hoa : Hid (∀ b, va.ownBlock = some b → b < K.b0) := fun b hb => h.old b (.inr (.inr (.inr ⟨va, hma, hb⟩)))
  obtain ⟨fa, fc, rfl⟩ := ownsRow_len hea.f
  obtain ⟨aa, ac, rfl⟩ := ownsRow_len hea.a
  clear h he hea hE hmf hma h1 h2
  rcases hk with rfl
  all_goals
    generalize hW : w.alloc (.cells #[.int .i64 18, .int .i64 nu, .int .i64 bi, .int .i64 e1, .int .i64 e2, .int .i64 e3, .slice fa fs.length fc, .slice aa am.length ac] 162) = W
    have HFW : Hid (Fr (fun _ => False) w W) := by rw [← hW]; exact (Fr.refl _ w).alloc _
    have hbl := blk_new w (.cells #[.int .i64 18, .int .i64 nu, .int .i64 bi, .int .i64 e1, .int .i64 e2, .int .i64 e3, .slice fa fs.length fc, .slice aa am.length ac] 162)
    rw [hW] at hbl
    have HX0 : Hid (Tx K q W D W D f fx) := Tx.start (HT.out.fr HFW.out)
    have hn := HT.out.loc (Nat.le_refl _)
    have HL : Hid (∀ w' D' f' fx', Tx K q W D w' D' f' fx' → w'.heap[w.heap.size]? = W.heap[w.heap.size]?) := fun _ _ _ _ hx => (hx.blk hn hbl).trans hbl.symm
    have HBL : Hid _ := hbl
    obtain ⟨m0, m1, m2, m3, m4, m5, m6, m7⟩ := cells8 hbl
    have hl0 := blk_lt hbl
    have hq0 := HX0.out.1.lt
    clear hn hbl
    go_enter Tryz.func73, Tryz.ntmps73
    go_wp2_with fail
    refine (HX0.out.want ih H1.out).mono ?_
    rintro r1 w1 ⟨rfl, D1, hX1⟩
    have HX1 : Hid (Tx K q W D w1 D1 f1 fx) := hX1
    have hb1 := (HL.out _ _ _ _ hX1).trans HBL.out
    have hq1 := hX1.1.lt
    have hl1 := blk_lt hb1
    clear m0 m1 m2 m3 m4 m5 m6 m7 hX1 HX0 hq0 hl0 hW
    obtain ⟨m0, m1, m2, m3, m4, m5, m6, m7⟩ := cells8 hb1
    clear hb1
    go_wp2_with fail
    refine (HX1.out.want ih H2.out).mono ?_
    rintro r2 w2 ⟨rfl, D2, hX2⟩
    have HX2 : Hid (Tx K q W D w2 D2 f2 fx) := hX2
    have hb2 := (HL.out _ _ _ _ hX2).trans HBL.out
    have hq2 := hX2.1.lt
    have hl2 := blk_lt hb2
    clear m0 m1 m2 m3 m4 m5 m6 m7 hX2 HX1 hq1 hl1
    obtain ⟨m0, m1, m2, m3, m4, m5, m6, m7⟩ := cells8 hb2
    clear hb2
    go_wp2_with fail
    go_ret
    exact ⟨rfl, HX2.out.n.pre (HFW.out.mono (fun _ h => h.elim))⟩

set_option maxHeartbeats 1600000 in
set_option maxRecDepth 100000 in
theorem exp_op19 (ih : TIh K q R) {kk : Int} {f1 f2 : FX} (h1 : yWant n R f fx e1 0 = some f1) (h2 : yWant n R f1 fx e2 0 = some f2) (he  : expAt K.t i = some ⟨kk, nu, bi, e1, e2, e3, fs, am⟩) (hk : kk = 19) : TCt K q f fx i (f2, 0) := by
  intro w D h
  have H1 : Hid (yWant n R f fx e1 0 = some f1) := h1
  have H2 : Hid (yWant n R f1 fx e2 0 = some f2) := h2
  obtain ⟨g, cap, m, vf, va, hE, rfl, hm, hg, hea, ⟨hmf, hma⟩, d0, d1, d2, d3, d4, d5, d6, d7⟩ := h.tr.ex he
  obtain ⟨⟨c0, -, -, c4, c8, -, -⟩, -⟩ := h.cells
  rw [hE] at c0
  have hq := h.lt
  have hne := h.ne
  have HT : Hid (Ty K q w f fx D) := h
  have Hrf : Hid (w.ownsRow 0 165 3 vf fs.length (funCells fs)) := hea.f
  have Hra : Hid (w.ownsRow 0 264 2 va am.length (armCells am)) := hea.a
  have Hof : Hid (∀ b, vf.ownBlock = some b → b < K.b0) := fun b hb => h.old b (.inr (.inr (.inr ⟨vf, hmf, hb⟩)))
  have Hoa : Hid (∀ b, va.ownBlock = some b → b < K.b0) := fun b hb => h.old b (.inr (.inr (.inr ⟨va, hma, hb⟩)))
  obtain ⟨fa, fc, rfl⟩ := ownsRow_len hea.f
  obtain ⟨aa, ac, rfl⟩ := ownsRow_len hea.a
  clear h he hea hE hmf hma h1 h2
  rcases hk with rfl
  all_goals
    generalize hW : w.alloc (.cells #[.int .i64 19, .int .i64 nu, .int .i64 bi, .int .i64 e1, .int .i64 e2, .int .i64 e3, .slice fa fs.length fc, .slice aa am.length ac] 162) = W
    have HFW : Hid (Fr (fun _ => False) w W) := by rw [← hW]; exact (Fr.refl _ w).alloc _
    have hbl := blk_new w (.cells #[.int .i64 19, .int .i64 nu, .int .i64 bi, .int .i64 e1, .int .i64 e2, .int .i64 e3, .slice fa fs.length fc, .slice aa am.length ac] 162)
    rw [hW] at hbl
    have HX0 : Hid (Tx K q W D W D f fx) := Tx.start (HT.out.fr HFW.out)
    have hn := HT.out.loc (Nat.le_refl _)
    have HL : Hid (∀ w' D' f' fx', Tx K q W D w' D' f' fx' → w'.heap[w.heap.size]? = W.heap[w.heap.size]?) := fun _ _ _ _ hx => (hx.blk hn hbl).trans hbl.symm
    have HBL : Hid _ := hbl
    obtain ⟨m0, m1, m2, m3, m4, m5, m6, m7⟩ := cells8 hbl
    have hl0 := blk_lt hbl
    have hq0 := HX0.out.1.lt
    clear hn hbl
    go_enter Tryz.func73, Tryz.ntmps73
    go_wp2_with fail
    refine (HX0.out.want ih H1.out).mono ?_
    rintro r1 w1 ⟨rfl, D1, hX1⟩
    have HX1 : Hid (Tx K q W D w1 D1 f1 fx) := hX1
    have hb1 := (HL.out _ _ _ _ hX1).trans HBL.out
    have hq1 := hX1.1.lt
    have hl1 := blk_lt hb1
    clear m0 m1 m2 m3 m4 m5 m6 m7 hX1 HX0 hq0 hl0 hW
    obtain ⟨m0, m1, m2, m3, m4, m5, m6, m7⟩ := cells8 hb1
    clear hb1
    go_wp2_with fail
    refine (HX1.out.want ih H2.out).mono ?_
    rintro r2 w2 ⟨rfl, D2, hX2⟩
    have HX2 : Hid (Tx K q W D w2 D2 f2 fx) := hX2
    have hb2 := (HL.out _ _ _ _ hX2).trans HBL.out
    have hq2 := hX2.1.lt
    have hl2 := blk_lt hb2
    clear m0 m1 m2 m3 m4 m5 m6 m7 hX2 HX1 hq1 hl1
    obtain ⟨m0, m1, m2, m3, m4, m5, m6, m7⟩ := cells8 hb2
    clear hb2
    go_wp2_with fail
    go_ret
    exact ⟨rfl, HX2.out.n.pre (HFW.out.mono (fun _ h => h.elim))⟩

set_option maxHeartbeats 1600000 in
set_option maxRecDepth 100000 in
theorem exp_op20 (ih : TIh K q R) {kk : Int} {f1 f2 : FX} (h1 : yWant n R f fx e1 0 = some f1) (h2 : yWant n R f1 fx e2 0 = some f2) (he  : expAt K.t i = some ⟨kk, nu, bi, e1, e2, e3, fs, am⟩) (hk : kk = 20) : TCt K q f fx i (f2, 0) := by
  intro w D h
  have H1 : Hid (yWant n R f fx e1 0 = some f1) := h1
  have H2 : Hid (yWant n R f1 fx e2 0 = some f2) := h2
  obtain ⟨g, cap, m, vf, va, hE, rfl, hm, hg, hea, ⟨hmf, hma⟩, d0, d1, d2, d3, d4, d5, d6, d7⟩ := h.tr.ex he
  obtain ⟨⟨c0, -, -, c4, c8, -, -⟩, -⟩ := h.cells
  rw [hE] at c0
  have hq := h.lt
  have hne := h.ne
  have HT : Hid (Ty K q w f fx D) := h
  have Hrf : Hid (w.ownsRow 0 165 3 vf fs.length (funCells fs)) := hea.f
  have Hra : Hid (w.ownsRow 0 264 2 va am.length (armCells am)) := hea.a
  have Hof : Hid (∀ b, vf.ownBlock = some b → b < K.b0) := fun b hb => h.old b (.inr (.inr (.inr ⟨vf, hmf, hb⟩)))
  have Hoa : Hid (∀ b, va.ownBlock = some b → b < K.b0) := fun b hb => h.old b (.inr (.inr (.inr ⟨va, hma, hb⟩)))
  obtain ⟨fa, fc, rfl⟩ := ownsRow_len hea.f
  obtain ⟨aa, ac, rfl⟩ := ownsRow_len hea.a
  clear h he hea hE hmf hma h1 h2
  rcases hk with rfl
  all_goals
    generalize hW : w.alloc (.cells #[.int .i64 20, .int .i64 nu, .int .i64 bi, .int .i64 e1, .int .i64 e2, .int .i64 e3, .slice fa fs.length fc, .slice aa am.length ac] 162) = W
    have HFW : Hid (Fr (fun _ => False) w W) := by rw [← hW]; exact (Fr.refl _ w).alloc _
    have hbl := blk_new w (.cells #[.int .i64 20, .int .i64 nu, .int .i64 bi, .int .i64 e1, .int .i64 e2, .int .i64 e3, .slice fa fs.length fc, .slice aa am.length ac] 162)
    rw [hW] at hbl
    have HX0 : Hid (Tx K q W D W D f fx) := Tx.start (HT.out.fr HFW.out)
    have hn := HT.out.loc (Nat.le_refl _)
    have HL : Hid (∀ w' D' f' fx', Tx K q W D w' D' f' fx' → w'.heap[w.heap.size]? = W.heap[w.heap.size]?) := fun _ _ _ _ hx => (hx.blk hn hbl).trans hbl.symm
    have HBL : Hid _ := hbl
    obtain ⟨m0, m1, m2, m3, m4, m5, m6, m7⟩ := cells8 hbl
    have hl0 := blk_lt hbl
    have hq0 := HX0.out.1.lt
    clear hn hbl
    go_enter Tryz.func73, Tryz.ntmps73
    go_wp2_with fail
    refine (HX0.out.want ih H1.out).mono ?_
    rintro r1 w1 ⟨rfl, D1, hX1⟩
    have HX1 : Hid (Tx K q W D w1 D1 f1 fx) := hX1
    have hb1 := (HL.out _ _ _ _ hX1).trans HBL.out
    have hq1 := hX1.1.lt
    have hl1 := blk_lt hb1
    clear m0 m1 m2 m3 m4 m5 m6 m7 hX1 HX0 hq0 hl0 hW
    obtain ⟨m0, m1, m2, m3, m4, m5, m6, m7⟩ := cells8 hb1
    clear hb1
    go_wp2_with fail
    refine (HX1.out.want ih H2.out).mono ?_
    rintro r2 w2 ⟨rfl, D2, hX2⟩
    have HX2 : Hid (Tx K q W D w2 D2 f2 fx) := hX2
    have hb2 := (HL.out _ _ _ _ hX2).trans HBL.out
    have hq2 := hX2.1.lt
    have hl2 := blk_lt hb2
    clear m0 m1 m2 m3 m4 m5 m6 m7 hX2 HX1 hq1 hl1
    obtain ⟨m0, m1, m2, m3, m4, m5, m6, m7⟩ := cells8 hb2
    clear hb2
    go_wp2_with fail
    go_ret
    exact ⟨rfl, HX2.out.n.pre (HFW.out.mono (fun _ h => h.elim))⟩

set_option maxHeartbeats 1600000 in
set_option maxRecDepth 100000 in
theorem exp_op21 (ih : TIh K q R) {kk : Int} {f1 f2 : FX} (h1 : yWant n R f fx e1 0 = some f1) (h2 : yWant n R f1 fx e2 0 = some f2) (he  : expAt K.t i = some ⟨kk, nu, bi, e1, e2, e3, fs, am⟩) (hk : kk = 21) : TCt K q f fx i (f2, 0) := by
  intro w D h
  have H1 : Hid (yWant n R f fx e1 0 = some f1) := h1
  have H2 : Hid (yWant n R f1 fx e2 0 = some f2) := h2
  obtain ⟨g, cap, m, vf, va, hE, rfl, hm, hg, hea, ⟨hmf, hma⟩, d0, d1, d2, d3, d4, d5, d6, d7⟩ := h.tr.ex he
  obtain ⟨⟨c0, -, -, c4, c8, -, -⟩, -⟩ := h.cells
  rw [hE] at c0
  have hq := h.lt
  have hne := h.ne
  have HT : Hid (Ty K q w f fx D) := h
  have Hrf : Hid (w.ownsRow 0 165 3 vf fs.length (funCells fs)) := hea.f
  have Hra : Hid (w.ownsRow 0 264 2 va am.length (armCells am)) := hea.a
  have Hof : Hid (∀ b, vf.ownBlock = some b → b < K.b0) := fun b hb => h.old b (.inr (.inr (.inr ⟨vf, hmf, hb⟩)))
  have Hoa : Hid (∀ b, va.ownBlock = some b → b < K.b0) := fun b hb => h.old b (.inr (.inr (.inr ⟨va, hma, hb⟩)))
  obtain ⟨fa, fc, rfl⟩ := ownsRow_len hea.f
  obtain ⟨aa, ac, rfl⟩ := ownsRow_len hea.a
  clear h he hea hE hmf hma h1 h2
  rcases hk with rfl
  all_goals
    generalize hW : w.alloc (.cells #[.int .i64 21, .int .i64 nu, .int .i64 bi, .int .i64 e1, .int .i64 e2, .int .i64 e3, .slice fa fs.length fc, .slice aa am.length ac] 162) = W
    have HFW : Hid (Fr (fun _ => False) w W) := by rw [← hW]; exact (Fr.refl _ w).alloc _
    have hbl := blk_new w (.cells #[.int .i64 21, .int .i64 nu, .int .i64 bi, .int .i64 e1, .int .i64 e2, .int .i64 e3, .slice fa fs.length fc, .slice aa am.length ac] 162)
    rw [hW] at hbl
    have HX0 : Hid (Tx K q W D W D f fx) := Tx.start (HT.out.fr HFW.out)
    have hn := HT.out.loc (Nat.le_refl _)
    have HL : Hid (∀ w' D' f' fx', Tx K q W D w' D' f' fx' → w'.heap[w.heap.size]? = W.heap[w.heap.size]?) := fun _ _ _ _ hx => (hx.blk hn hbl).trans hbl.symm
    have HBL : Hid _ := hbl
    obtain ⟨m0, m1, m2, m3, m4, m5, m6, m7⟩ := cells8 hbl
    have hl0 := blk_lt hbl
    have hq0 := HX0.out.1.lt
    clear hn hbl
    go_enter Tryz.func73, Tryz.ntmps73
    go_wp2_with fail
    refine (HX0.out.want ih H1.out).mono ?_
    rintro r1 w1 ⟨rfl, D1, hX1⟩
    have HX1 : Hid (Tx K q W D w1 D1 f1 fx) := hX1
    have hb1 := (HL.out _ _ _ _ hX1).trans HBL.out
    have hq1 := hX1.1.lt
    have hl1 := blk_lt hb1
    clear m0 m1 m2 m3 m4 m5 m6 m7 hX1 HX0 hq0 hl0 hW
    obtain ⟨m0, m1, m2, m3, m4, m5, m6, m7⟩ := cells8 hb1
    clear hb1
    go_wp2_with fail
    refine (HX1.out.want ih H2.out).mono ?_
    rintro r2 w2 ⟨rfl, D2, hX2⟩
    have HX2 : Hid (Tx K q W D w2 D2 f2 fx) := hX2
    have hb2 := (HL.out _ _ _ _ hX2).trans HBL.out
    have hq2 := hX2.1.lt
    have hl2 := blk_lt hb2
    clear m0 m1 m2 m3 m4 m5 m6 m7 hX2 HX1 hq1 hl1
    obtain ⟨m0, m1, m2, m3, m4, m5, m6, m7⟩ := cells8 hb2
    clear hb2
    go_wp2_with fail
    go_ret
    exact ⟨rfl, HX2.out.n.pre (HFW.out.mono (fun _ h => h.elim))⟩

set_option maxHeartbeats 1600000 in
set_option maxRecDepth 100000 in
theorem exp_print24 (ih : TIh K q R) {kk : Int} {f1 : FX} (h1 : yWant n R f fx e1 0 = some f1) (he  : expAt K.t i = some ⟨kk, nu, bi, e1, e2, e3, fs, am⟩) (hk : kk = 24) : TCt K q f fx i (f1, 0) := by
  intro w D h
  have H1 : Hid (yWant n R f fx e1 0 = some f1) := h1
  obtain ⟨g, cap, m, vf, va, hE, rfl, hm, hg, hea, ⟨hmf, hma⟩, d0, d1, d2, d3, d4, d5, d6, d7⟩ := h.tr.ex he
  obtain ⟨⟨c0, -, -, c4, c8, -, -⟩, -⟩ := h.cells
  rw [hE] at c0
  have hq := h.lt
  have hne := h.ne
  have HT : Hid (Ty K q w f fx D) := h
  have Hrf : Hid (w.ownsRow 0 165 3 vf fs.length (funCells fs)) := hea.f
  have Hra : Hid (w.ownsRow 0 264 2 va am.length (armCells am)) := hea.a
  have Hof : Hid (∀ b, vf.ownBlock = some b → b < K.b0) := fun b hb => h.old b (.inr (.inr (.inr ⟨vf, hmf, hb⟩)))
  have Hoa : Hid (∀ b, va.ownBlock = some b → b < K.b0) := fun b hb => h.old b (.inr (.inr (.inr ⟨va, hma, hb⟩)))
  obtain ⟨fa, fc, rfl⟩ := ownsRow_len hea.f
  obtain ⟨aa, ac, rfl⟩ := ownsRow_len hea.a
  clear h he hea hE hmf hma h1
  rcases hk with rfl
  all_goals
    generalize hW : w.alloc (.cells #[.int .i64 24, .int .i64 nu, .int .i64 bi, .int .i64 e1, .int .i64 e2, .int .i64 e3, .slice fa fs.length fc, .slice aa am.length ac] 162) = W
    have HFW : Hid (Fr (fun _ => False) w W) := by rw [← hW]; exact (Fr.refl _ w).alloc _
    have hbl := blk_new w (.cells #[.int .i64 24, .int .i64 nu, .int .i64 bi, .int .i64 e1, .int .i64 e2, .int .i64 e3, .slice fa fs.length fc, .slice aa am.length ac] 162)
    rw [hW] at hbl
    have HX0 : Hid (Tx K q W D W D f fx) := Tx.start (HT.out.fr HFW.out)
    have hn := HT.out.loc (Nat.le_refl _)
    have HL : Hid (∀ w' D' f' fx', Tx K q W D w' D' f' fx' → w'.heap[w.heap.size]? = W.heap[w.heap.size]?) := fun _ _ _ _ hx => (hx.blk hn hbl).trans hbl.symm
    have HBL : Hid _ := hbl
    obtain ⟨m0, m1, m2, m3, m4, m5, m6, m7⟩ := cells8 hbl
    have hl0 := blk_lt hbl
    have hq0 := HX0.out.1.lt
    clear hn hbl
    go_enter Tryz.func73, Tryz.ntmps73
    go_wp2_with fail
    refine (HX0.out.want ih H1.out).mono ?_
    rintro r1 w1 ⟨rfl, D1, hX1⟩
    have HX1 : Hid (Tx K q W D w1 D1 f1 fx) := hX1
    have hb1 := (HL.out _ _ _ _ hX1).trans HBL.out
    have hq1 := hX1.1.lt
    have hl1 := blk_lt hb1
    clear m0 m1 m2 m3 m4 m5 m6 m7 hX1 HX0 hq0 hl0 hW
    obtain ⟨m0, m1, m2, m3, m4, m5, m6, m7⟩ := cells8 hb1
    clear hb1
    go_wp2_with fail
    go_ret
    exact ⟨rfl, HX1.out.n.pre (HFW.out.mono (fun _ h => h.elim))⟩

set_option maxHeartbeats 1600000 in
set_option maxRecDepth 100000 in
theorem exp_raise22 (ih : TIh K q R) {kk : Int} {f1 f2 : FX} {t2 : Int} (h1 : yWant n R f fx e1 0 = some f1) (h2 : yNew f1 {} = some (f2, t2)) (he  : expAt K.t i = some ⟨kk, nu, bi, e1, e2, e3, fs, am⟩) (hk : kk = 22) : TCt K q f fx i (f2, t2) := by
  intro w D h
  have H1 : Hid (yWant n R f fx e1 0 = some f1) := h1
  have H2 : Hid (yNew f1 {} = some (f2, t2)) := h2
  obtain ⟨g, cap, m, vf, va, hE, rfl, hm, hg, hea, ⟨hmf, hma⟩, d0, d1, d2, d3, d4, d5, d6, d7⟩ := h.tr.ex he
  obtain ⟨⟨c0, -, -, c4, c8, -, -⟩, -⟩ := h.cells
  rw [hE] at c0
  have hq := h.lt
  have hne := h.ne
  have HT : Hid (Ty K q w f fx D) := h
  have Hrf : Hid (w.ownsRow 0 165 3 vf fs.length (funCells fs)) := hea.f
  have Hra : Hid (w.ownsRow 0 264 2 va am.length (armCells am)) := hea.a
  have Hof : Hid (∀ b, vf.ownBlock = some b → b < K.b0) := fun b hb => h.old b (.inr (.inr (.inr ⟨vf, hmf, hb⟩)))
  have Hoa : Hid (∀ b, va.ownBlock = some b → b < K.b0) := fun b hb => h.old b (.inr (.inr (.inr ⟨va, hma, hb⟩)))
  obtain ⟨fa, fc, rfl⟩ := ownsRow_len hea.f
  obtain ⟨aa, ac, rfl⟩ := ownsRow_len hea.a
  clear h he hea hE hmf hma h1 h2
  rcases hk with rfl
  all_goals
    generalize hW : w.alloc (.cells #[.int .i64 22, .int .i64 nu, .int .i64 bi, .int .i64 e1, .int .i64 e2, .int .i64 e3, .slice fa fs.length fc, .slice aa am.length ac] 162) = W
    have HFW : Hid (Fr (fun _ => False) w W) := by rw [← hW]; exact (Fr.refl _ w).alloc _
    have hbl := blk_new w (.cells #[.int .i64 22, .int .i64 nu, .int .i64 bi, .int .i64 e1, .int .i64 e2, .int .i64 e3, .slice fa fs.length fc, .slice aa am.length ac] 162)
    rw [hW] at hbl
    have HX0 : Hid (Tx K q W D W D f fx) := Tx.start (HT.out.fr HFW.out)
    have hn := HT.out.loc (Nat.le_refl _)
    have HL : Hid (∀ w' D' f' fx', Tx K q W D w' D' f' fx' → w'.heap[w.heap.size]? = W.heap[w.heap.size]?) := fun _ _ _ _ hx => (hx.blk hn hbl).trans hbl.symm
    have HBL : Hid _ := hbl
    obtain ⟨m0, m1, m2, m3, m4, m5, m6, m7⟩ := cells8 hbl
    have hl0 := blk_lt hbl
    have hq0 := HX0.out.1.lt
    clear hn hbl
    go_enter Tryz.func73, Tryz.ntmps73
    go_wp2_with fail
    refine (HX0.out.want ih H1.out).mono ?_
    rintro r1 w1 ⟨rfl, D1, hX1⟩
    have HX1 : Hid (Tx K q W D w1 D1 f1 fx) := hX1
    have hb1 := (HL.out _ _ _ _ hX1).trans HBL.out
    have hq1 := hX1.1.lt
    have hl1 := blk_lt hb1
    clear m0 m1 m2 m3 m4 m5 m6 m7 hX1 HX0 hq0 hl0 hW
    obtain ⟨m0, m1, m2, m3, m4, m5, m6, m7⟩ := cells8 hb1
    clear hb1
    go_wp2_with fail
    refine (HX1.out.unknown H2.out).mono ?_
    rintro r2 w2 ⟨rfl, D2, hX2⟩
    have HX2 : Hid (Tx K q W D w2 D2 f2 fx) := hX2
    have hb2 := (HL.out _ _ _ _ hX2).trans HBL.out
    have hq2 := hX2.1.lt
    have hl2 := blk_lt hb2
    clear m0 m1 m2 m3 m4 m5 m6 m7 hX2 HX1 hq1 hl1
    obtain ⟨m0, m1, m2, m3, m4, m5, m6, m7⟩ := cells8 hb2
    clear hb2
    go_wp2_with fail
    go_ret
    exact ⟨rfl, HX2.out.n.pre (HFW.out.mono (fun _ h => h.elim))⟩

end
end Go.Proofs.YtklimomeendajaaGreatDoor

/- exp, where it hands the expression on; names (made by tools/mk_exp3.py). -/
namespace Go.Proofs.YtklimomeendajaaGreatDoor
open Go.RowKit

section
variable {K : TC} {q : Nat} {f : FX} {fx : List Int} {R : FX → List Int → Int → Option (FX × Int)} {n : Nat} {i : Int} {nu bi e1 e2 e3 : Int} {fs : List (Int × Int × Int)} {am : List (Int × Int)}

set_option maxHeartbeats 1600000 in
set_option maxRecDepth 100000 in
theorem exp_pair (he : expAt K.t i = some ⟨7, nu, bi, e1, e2, e3, fs, am⟩) {f' : FX} {t : Int} (HC : ∀ (w : World) (D : TD) (fa aa : Option Addr) (fc ac : Nat), Ty K q w f fx D → w.ownsRow 0 165 3 (.slice fa fs.length fc) fs.length (funCells fs) → (∀ b, (Value.slice fa fs.length fc).ownBlock = some b → b < K.b0) →
      w.ownsRow 0 264 2 (.slice aa am.length ac) am.length (armCells am) → (∀ b, (Value.slice aa am.length ac).ownBlock = some b → b < K.b0) → ∀ W, Fr (fun _ => False) w W →
      Calls Tryz.prog 116 #[.pointer (some ⟨q, 0, none⟩), .agg #[.int .i64 7, .int .i64 nu, .int .i64 bi, .int .i64 e1, .int .i64 e2, .int .i64 e3, .slice fa fs.length fc, .slice aa am.length ac]] W (TR K q w D (.int .i32 t) f' fx)) : TCt K q f fx i (f', t) := by
  intro w D h
  obtain ⟨g, cap, m, vf, va, hE, rfl, hm, hg, hea, ⟨hmf, hma⟩, d0, d1, d2, d3, d4, d5, d6, d7⟩ := h.tr.ex he
  obtain ⟨⟨c0, -, -, c4, c8, -, -⟩, -⟩ := h.cells
  rw [hE] at c0
  have hq := h.lt
  have hne := h.ne
  have HT : Hid (Ty K q w f fx D) := h
  have Hof : Hid (∀ b, vf.ownBlock = some b → b < K.b0) := fun b hb => h.old b (.inr (.inr (.inr ⟨vf, hmf, hb⟩)))
  have Hoa : Hid (∀ b, va.ownBlock = some b → b < K.b0) := fun b hb => h.old b (.inr (.inr (.inr ⟨va, hma, hb⟩)))
  have Hrf := hea.f
  have Hra := hea.a
  obtain ⟨fa, fc, rfl⟩ := ownsRow_len hea.f
  obtain ⟨aa, ac, rfl⟩ := ownsRow_len hea.a
  have H : Hid (∀ W, Fr (fun _ => False) w W → Calls Tryz.prog 116 #[.pointer (some ⟨q, 0, none⟩), .agg #[.int .i64 7, .int .i64 nu, .int .i64 bi, .int .i64 e1, .int .i64 e2, .int .i64 e3, .slice fa fs.length fc, .slice aa am.length ac]] W (TR K q w D (.int .i32 t) f' fx)) := HC w D fa aa fc ac h Hrf Hof.out Hra Hoa.out
  clear h he hea hE hmf hma HC Hrf Hra
  go_enter Tryz.func73, Tryz.ntmps73
  go_wp2_with fail
  refine (H.out _ (by repeat (first | with_reducible exact Fr.refl _ _ | (with_reducible refine Fr.drew ?_) | (with_reducible refine Fr.drewN ?_ _) | (with_reducible refine Fr.alloc ?_ _) | ((with_reducible refine Fr.setCell ?_ ?_ _); rotate_left; first | exact .inl rfl | exact .inr (Nat.le_refl _) | exact .inl (Nat.le_refl _) | (focus (left; simp; done)) | (focus (left; simp; omega)) | (focus (left; omega)) | (focus (right; simp; done)) | (focus (right; simp; omega)) | (focus (right; omega))) | exact Fr.refl _ _))).mono ?_
  rintro r1 w1 ⟨rfl, D1, hX1⟩
  have HX1 : Hid (Tx K q w D w1 D1 f' fx) := hX1
  clear hX1
  go_wp2_with fail
  go_ret
  exact ⟨rfl, HX1.out.n⟩

set_option maxHeartbeats 1600000 in
set_option maxRecDepth 100000 in
theorem exp_cons (he : expAt K.t i = some ⟨8, nu, bi, e1, e2, e3, fs, am⟩) {f' : FX} {t : Int} (HC : ∀ (w : World) (D : TD) (fa aa : Option Addr) (fc ac : Nat), Ty K q w f fx D → w.ownsRow 0 165 3 (.slice fa fs.length fc) fs.length (funCells fs) → (∀ b, (Value.slice fa fs.length fc).ownBlock = some b → b < K.b0) →
      w.ownsRow 0 264 2 (.slice aa am.length ac) am.length (armCells am) → (∀ b, (Value.slice aa am.length ac).ownBlock = some b → b < K.b0) → ∀ W, Fr (fun _ => False) w W →
      Calls Tryz.prog 117 #[.pointer (some ⟨q, 0, none⟩), .agg #[.int .i64 8, .int .i64 nu, .int .i64 bi, .int .i64 e1, .int .i64 e2, .int .i64 e3, .slice fa fs.length fc, .slice aa am.length ac]] W (TR K q w D (.int .i32 t) f' fx)) : TCt K q f fx i (f', t) := by
  intro w D h
  obtain ⟨g, cap, m, vf, va, hE, rfl, hm, hg, hea, ⟨hmf, hma⟩, d0, d1, d2, d3, d4, d5, d6, d7⟩ := h.tr.ex he
  obtain ⟨⟨c0, -, -, c4, c8, -, -⟩, -⟩ := h.cells
  rw [hE] at c0
  have hq := h.lt
  have hne := h.ne
  have HT : Hid (Ty K q w f fx D) := h
  have Hof : Hid (∀ b, vf.ownBlock = some b → b < K.b0) := fun b hb => h.old b (.inr (.inr (.inr ⟨vf, hmf, hb⟩)))
  have Hoa : Hid (∀ b, va.ownBlock = some b → b < K.b0) := fun b hb => h.old b (.inr (.inr (.inr ⟨va, hma, hb⟩)))
  have Hrf := hea.f
  have Hra := hea.a
  obtain ⟨fa, fc, rfl⟩ := ownsRow_len hea.f
  obtain ⟨aa, ac, rfl⟩ := ownsRow_len hea.a
  have H : Hid (∀ W, Fr (fun _ => False) w W → Calls Tryz.prog 117 #[.pointer (some ⟨q, 0, none⟩), .agg #[.int .i64 8, .int .i64 nu, .int .i64 bi, .int .i64 e1, .int .i64 e2, .int .i64 e3, .slice fa fs.length fc, .slice aa am.length ac]] W (TR K q w D (.int .i32 t) f' fx)) := HC w D fa aa fc ac h Hrf Hof.out Hra Hoa.out
  clear h he hea hE hmf hma HC Hrf Hra
  go_enter Tryz.func73, Tryz.ntmps73
  go_wp2_with fail
  refine (H.out _ (by repeat (first | with_reducible exact Fr.refl _ _ | (with_reducible refine Fr.drew ?_) | (with_reducible refine Fr.drewN ?_ _) | (with_reducible refine Fr.alloc ?_ _) | ((with_reducible refine Fr.setCell ?_ ?_ _); rotate_left; first | exact .inl rfl | exact .inr (Nat.le_refl _) | exact .inl (Nat.le_refl _) | (focus (left; simp; done)) | (focus (left; simp; omega)) | (focus (left; omega)) | (focus (right; simp; done)) | (focus (right; simp; omega)) | (focus (right; omega))) | exact Fr.refl _ _))).mono ?_
  rintro r1 w1 ⟨rfl, D1, hX1⟩
  have HX1 : Hid (Tx K q w D w1 D1 f' fx) := hX1
  clear hX1
  go_wp2_with fail
  go_ret
  exact ⟨rfl, HX1.out.n⟩

set_option maxHeartbeats 1600000 in
set_option maxRecDepth 100000 in
theorem exp_form {kk : Int} (n1 : ¬ kk = 1) (n9 : ¬ kk = 9) (n2 : ¬ kk = 2) (n3 : ¬ kk = 3) (n4 : ¬ kk = 4) (n5 : ¬ kk = 5) (n7 : ¬ kk = 7) (n8 : ¬ kk = 8) (n16 : ¬ kk = 16) (n17 : ¬ kk = 17) (n18 : ¬ kk = 18) (n19 : ¬ kk = 19) (n20 : ¬ kk = 20) (n21 : ¬ kk = 21) (n24 : ¬ kk = 24) (n22 : ¬ kk = 22) (he : expAt K.t i = some ⟨kk, nu, bi, e1, e2, e3, fs, am⟩) {f' : FX} {t : Int} (HC : ∀ (w : World) (D : TD) (fa aa : Option Addr) (fc ac : Nat), Ty K q w f fx D → w.ownsRow 0 165 3 (.slice fa fs.length fc) fs.length (funCells fs) → (∀ b, (Value.slice fa fs.length fc).ownBlock = some b → b < K.b0) →
      w.ownsRow 0 264 2 (.slice aa am.length ac) am.length (armCells am) → (∀ b, (Value.slice aa am.length ac).ownBlock = some b → b < K.b0) → ∀ W, Fr (fun _ => False) w W →
      Calls Tryz.prog 120 #[.pointer (some ⟨q, 0, none⟩), .agg #[.int .i64 kk, .int .i64 nu, .int .i64 bi, .int .i64 e1, .int .i64 e2, .int .i64 e3, .slice fa fs.length fc, .slice aa am.length ac]] W (TR K q w D (.int .i32 t) f' fx)) : TCt K q f fx i (f', t) := by
  intro w D h
  obtain ⟨g, cap, m, vf, va, hE, rfl, hm, hg, hea, ⟨hmf, hma⟩, d0, d1, d2, d3, d4, d5, d6, d7⟩ := h.tr.ex he
  obtain ⟨⟨c0, -, -, c4, c8, -, -⟩, -⟩ := h.cells
  rw [hE] at c0
  have hq := h.lt
  have hne := h.ne
  have HT : Hid (Ty K q w f fx D) := h
  have Hof : Hid (∀ b, vf.ownBlock = some b → b < K.b0) := fun b hb => h.old b (.inr (.inr (.inr ⟨vf, hmf, hb⟩)))
  have Hoa : Hid (∀ b, va.ownBlock = some b → b < K.b0) := fun b hb => h.old b (.inr (.inr (.inr ⟨va, hma, hb⟩)))
  have Hrf := hea.f
  have Hra := hea.a
  obtain ⟨fa, fc, rfl⟩ := ownsRow_len hea.f
  obtain ⟨aa, ac, rfl⟩ := ownsRow_len hea.a
  have H : Hid (∀ W, Fr (fun _ => False) w W → Calls Tryz.prog 120 #[.pointer (some ⟨q, 0, none⟩), .agg #[.int .i64 kk, .int .i64 nu, .int .i64 bi, .int .i64 e1, .int .i64 e2, .int .i64 e3, .slice fa fs.length fc, .slice aa am.length ac]] W (TR K q w D (.int .i32 t) f' fx)) := HC w D fa aa fc ac h Hrf Hof.out Hra Hoa.out
  clear h he hea hE hmf hma HC Hrf Hra
  go_enter Tryz.func73, Tryz.ntmps73
  go_wp2_with fail
  refine (H.out _ (by repeat (first | with_reducible exact Fr.refl _ _ | (with_reducible refine Fr.drew ?_) | (with_reducible refine Fr.drewN ?_ _) | (with_reducible refine Fr.alloc ?_ _) | ((with_reducible refine Fr.setCell ?_ ?_ _); rotate_left; first | exact .inl rfl | exact .inr (Nat.le_refl _) | exact .inl (Nat.le_refl _) | (focus (left; simp; done)) | (focus (left; simp; omega)) | (focus (left; omega)) | (focus (right; simp; done)) | (focus (right; simp; omega)) | (focus (right; omega))) | exact Fr.refl _ _))).mono ?_
  rintro r1 w1 ⟨rfl, D1, hX1⟩
  have HX1 : Hid (Tx K q w D w1 D1 f' fx) := hX1
  clear hX1
  go_wp2_with fail
  go_ret
  exact ⟨rfl, HX1.out.n⟩

theorem geti_some {l : List Int} {i v : Int} (h : geti l i = some v) : ∃ n : Nat, i = (n : Int) ∧ n < l.length ∧ l.getD n 0 = v := by
  unfold geti at h
  split at h
  · obtain ⟨hlt, he⟩ := List.getElem?_eq_some_iff.1 h
    exact ⟨i.toNat, by omega, hlt, by simp [hlt, he]⟩
  · cases h

set_option maxHeartbeats 1600000 in
set_option maxRecDepth 100000 in
theorem exp_name (he : expAt K.t i = some ⟨4, nu, bi, e1, e2, e3, fs, am⟩) {b t r : Int} {s' : SX} (h1 : geti K.ms i = some b) (h2 : geti f.nms b = some t) (h3 : xInst n f.s t = some (s', r)) : TCt K q f fx i ({ f with s := s' }, r) := by
  intro w D h
  obtain ⟨g, cap, m, vf, va, hE, rfl, hm, hg, hea, ⟨hmf, hma⟩, d0, d1, d2, d3, d4, d5, d6, d7⟩ := h.tr.ex he
  obtain ⟨⟨c0, -, -, c4, c8, -, -⟩, -⟩ := h.cells
  rw [hE] at c0
  have hq := h.lt
  have hne := h.ne
  have HT : Hid (Ty K q w f fx D) := h
  have Hof : Hid (∀ b, vf.ownBlock = some b → b < K.b0) := fun b hb => h.old b (.inr (.inr (.inr ⟨vf, hmf, hb⟩)))
  have Hoa : Hid (∀ b, va.ownBlock = some b → b < K.b0) := fun b hb => h.old b (.inr (.inr (.inr ⟨va, hma, hb⟩)))
  obtain ⟨fa, fc, rfl⟩ := ownsRow_len hea.f
  obtain ⟨aa, ac, rfl⟩ := ownsRow_len hea.a
  obtain ⟨m', hm', hml, hmb⟩ := geti_some h1
  obtain rfl : m = m' := by omega
  obtain ⟨b', rfl, hbl, hbt⟩ := geti_some h2
  obtain ⟨mg, mcap, hMV, cm, hmg⟩ := rowInt h.m hml
  rw [hmb] at cm
  rw [hMV] at c4
  obtain ⟨ng, ncap, hNV, cn, hng⟩ := tyAt h.n hbl
  rw [hbt] at cn
  rw [hNV] at c8
  have hml2 := row_le h.m
  have hnl2 := row_le h.n
  have H3 : Hid (xInst n f.s t = some (s', r)) := h3
  have q1 : (m : Int) < (K.ms.length : Int) := by omega
  have q2 : (b' : Int) < (f.nms.length : Int) := by omega
  clear h he hea hE hmf hma h1 h2 h3 hm' hmb hbt hMV hNV
  go_enter Tryz.func73, Tryz.ntmps73
  go_wp2_with fail
  refine region_tail 16 mixed (by kernel_rfl) ?_
  simp only [List.take_succ_cons, List.take_zero, List.drop_succ_cons, List.drop_zero]
  repeat still_step
  refine wpStill_nil ?_
  go_wp2_with fail
  generalize hW : (w.alloc (.cells #[.int .i64 4, .int .i64 nu, .int .i64 bi, .int .i64 e1, .int .i64 e2, .int .i64 e3, .slice fa fs.length fc, .slice aa am.length ac] 162)).drew = W
  have HFW : Hid (Fr (fun _ => False) w W) := by rw [← hW]; show Fr _ _ _; exact (by repeat (first | with_reducible exact Fr.refl _ _ | (with_reducible refine Fr.drew ?_) | (with_reducible refine Fr.drewN ?_ _) | (with_reducible refine Fr.alloc ?_ _) | ((with_reducible refine Fr.setCell ?_ ?_ _); rotate_left; first | exact .inl rfl | exact .inr (Nat.le_refl _) | exact .inl (Nat.le_refl _) | (focus (left; simp; done)) | (focus (left; simp; omega)) | (focus (left; omega)) | (focus (right; simp; done)) | (focus (right; simp; omega)) | (focus (right; omega))) | exact Fr.refl _ _))
  refine (inst_so (HT.out.fr HFW.out).so H3.out).mono ?_
  rintro r1 w1 ⟨rfl, hN⟩
  have HN : Hid (Tn K q w D w1 { f with s := s' } fx) := ((HT.out.fr HFW.out).sn hN).pre (HFW.out.mono (fun _ h => h.elim))
  clear hN
  go_wp2_with fail
  go_ret
  exact ⟨rfl, HN.out⟩
end
end Go.Proofs.YtklimomeendajaaGreatDoor

/- The contract of exp. -/
namespace Go.Proofs.YtklimomeendajaaGreatDoor
open Go.RowKit

section
variable {K : TC} {q : Nat} {f : FX} {fx : List Int} {R : FX → List Int → Int → Option (FX × Int)} {n : Nat} {i : Int}

theorem TR.tx {w0 w : World} {D0 D : TD} {W : World} (h : Ty K q w f fx D) (hF : Fr (fun _ => False) w W) : Tx K q w D W D f fx := (Tx.start h).fr hF

theorem exp_e (ih : TIh K q R) {kk nu bi e1 e2 e3 : Int} {fs : List (Int × Int × Int)} {am : List (Int × Int)} (he : expAt K.t i = some ⟨kk, nu, bi, e1, e2, e3, fs, am⟩) (x : FX × Int) (h : yE K.t K.ms n R f fx i ⟨kk, nu, bi, e1, e2, e3, fs, am⟩ = some x) : TCt K q f fx i x := by
  unfold yE at h
  dsimp only at h
  by_cases k1 : kk = 1 ∨ kk = 9
  · rw [if_pos k1] at h
    injection h with h
    subst h
    rcases k1 with k | k
    · exact exp_int1 ih he k
    · exact exp_int9 ih he k
  rw [if_neg k1] at h
  by_cases k2 : kk = 2 ∨ kk = 3
  · rw [if_pos k2] at h
    injection h with h
    subst h
    rcases k2 with k | k
    · exact exp_bool2 ih he k
    · exact exp_bool3 ih he k
  rw [if_neg k2] at h
  by_cases k4 : kk = 4
  · rw [if_pos k4] at h
    subst k4
    obtain ⟨b, h1, h⟩ := bindO h
    obtain ⟨t, h2, h⟩ := bindO h
    obtain ⟨⟨s', r⟩, h3, h⟩ := bindO h
    injection h with h
    subst h
    exact exp_name he h1 h2 h3
  rw [if_neg k4] at h
  by_cases k5 : kk = 5
  · rw [if_pos k5] at h
    obtain ⟨⟨f0, t0⟩, h1, h⟩ := bindO h
    obtain ⟨f1, t1⟩ := x
    exact exp_empty5 ih ⟨h1, h⟩ he k5
  rw [if_neg k5] at h
  by_cases k7 : kk = 7
  · rw [if_pos k7] at h
    subst k7
    obtain ⟨⟨f1, t1⟩, h1, h⟩ := bindO h
    obtain ⟨⟨f2, t2⟩, h2, h⟩ := bindO h
    obtain ⟨f3, t3⟩ := x
    exact exp_pair he fun w D fa aa fc ac hT _ _ _ _ W hF => ((Tx.start hT).fr hF).pairE ih h1 h2 h _ _ _ _ _ _ _ _ _ _
  rw [if_neg k7] at h
  by_cases k8 : kk = 8
  · rw [if_pos k8] at h
    subst k8
    obtain ⟨⟨f1, t1⟩, h1, h⟩ := bindO h
    obtain ⟨⟨f2, t2⟩, h2, h⟩ := bindO h
    obtain ⟨f3, h3, h⟩ := bindO h
    injection h with h
    subst h
    exact exp_cons he fun w D fa aa fc ac hT _ _ _ _ W hF => ((Tx.start hT).fr hF).consE ih h1 h2 h3 _ _ _ _ _ _ _ _ _ _
  rw [if_neg k8] at h
  by_cases k16 : kk = 16 ∨ kk = 17
  · rw [if_pos k16] at h
    obtain ⟨f1, h1, h⟩ := bindO h
    obtain ⟨f2, h2, h⟩ := bindO h
    injection h with h
    subst h
    rcases k16 with k | k
    · exact exp_cmp16 ih h1 h2 he k
    · exact exp_cmp17 ih h1 h2 he k
  rw [if_neg k16] at h
  by_cases k18 : kk = 18 ∨ kk = 19 ∨ kk = 20 ∨ kk = 21
  · rw [if_pos k18] at h
    obtain ⟨f1, h1, h⟩ := bindO h
    obtain ⟨f2, h2, h⟩ := bindO h
    injection h with h
    subst h
    rcases k18 with k | k | k | k
    · exact exp_op18 ih h1 h2 he k
    · exact exp_op19 ih h1 h2 he k
    · exact exp_op20 ih h1 h2 he k
    · exact exp_op21 ih h1 h2 he k
  rw [if_neg k18] at h
  by_cases k24 : kk = 24
  · rw [if_pos k24] at h
    obtain ⟨f1, h1, h⟩ := bindO h
    injection h with h
    subst h
    exact exp_print24 ih h1 he k24
  rw [if_neg k24] at h
  by_cases k22 : kk = 22
  · rw [if_pos k22] at h
    obtain ⟨f1, h1, h⟩ := bindO h
    obtain ⟨f2, t2⟩ := x
    exact exp_raise22 ih h1 h he k22
  rw [if_neg k22] at h
  refine exp_form (fun e => k1 (.inl e)) (fun e => k1 (.inr e)) (fun e => k2 (.inl e)) (fun e => k2 (.inr e)) k4 k5 k7 k8 (fun e => k16 (.inl e)) (fun e => k16 (.inr e)) (fun e => k18 (.inl e)) (fun e => k18 (.inr (.inl e))) (fun e => k18 (.inr (.inr (.inl e)))) (fun e => k18 (.inr (.inr (.inr e)))) k24 k22 he ?_
  intro w D fa aa fc ac hT hrf hof hra hoa
  by_cases k10 : kk = 10
  · rw [if_pos k10] at h
    subst k10
    obtain ⟨⟨f1, t1⟩, h1, h⟩ := bindO h
    obtain ⟨v, hv, h⟩ := bindO h
    cases v with
    | true =>
      rw [if_pos rfl] at h
      obtain ⟨f2, h2, h⟩ := bindO h
      obtain ⟨f3, h3, h⟩ := bindO h
      exact form_let fun W hF => ((Tx.start hT).fr hF).letV ih h1 hv h2 h3 h _ _ _ _ _ _ _ _ _
    | false =>
      rw [if_neg (by decide)] at h
      exact form_let fun W hF => ((Tx.start hT).fr hF).letE ih h1 hv h _ _ _ _ _ _ _ _ _
  rw [if_neg k10] at h
  by_cases k11 : kk = 11
  · rw [if_pos k11] at h
    subst k11
    obtain ⟨⟨f1, fx1, rs1⟩, h1, h⟩ := bindO h
    obtain ⟨f2, h2, h⟩ := bindO h
    obtain ⟨f3, h3, h⟩ := bindO h
    exact form_letRec fun W hF => ((Tx.start hT).fr hF).letRecE ih h1 h2 h3 h _ _ _ _ _ _ _ _ _ _ (rowKeep hF hrf fun _ _ h => h) hof
  rw [if_neg k11] at h
  by_cases k12 : kk = 12
  · rw [if_pos k12] at h
    subst k12
    obtain ⟨⟨f1, t1⟩, h1, h⟩ := bindO h
    obtain ⟨⟨f2, t2⟩, h2, h⟩ := bindO h
    obtain ⟨f3, t3⟩ := x
    exact form_fn fun W hF => ((Tx.start hT).fr hF).fnE ih h1 h2 h _ _ _ _ _ _ _ _
  rw [if_neg k12] at h
  by_cases k13 : kk = 13
  · rw [if_pos k13] at h
    subst k13
    obtain ⟨f1, h1, h⟩ := bindO h
    obtain ⟨⟨f2, t2⟩, h2, h⟩ := bindO h
    obtain ⟨f3, h3, h⟩ := bindO h
    injection h with h
    subst h
    exact form_choice fun W hF => ((Tx.start hT).fr hF).choiceE ih h1 h2 h3 _ _ _ _ _ _ _ _
  rw [if_neg k13] at h
  by_cases k14 : kk = 14
  · rw [if_pos k14] at h
    subst k14
    obtain ⟨⟨f1, t1⟩, h1, h⟩ := bindO h
    obtain ⟨⟨f2, t2⟩, h2, h⟩ := bindO h
    obtain ⟨f3, h3, h⟩ := bindO h
    injection h with h
    subst h
    exact form_match fun W hF => ((Tx.start hT).fr hF).matchE ih h1 h2 h3 _ _ _ _ _ _ _ _ _ _ (rowKeep hF hra fun _ _ h => h) hoa
  rw [if_neg k14] at h
  by_cases k15 : kk = 15
  · rw [if_pos k15] at h
    subst k15
    obtain ⟨⟨f1, t1⟩, h1, h⟩ := bindO h
    obtain ⟨⟨f2, t2⟩, h2, h⟩ := bindO h
    obtain ⟨f3, h3, h⟩ := bindO h
    injection h with h
    subst h
    exact form_try fun W hF => ((Tx.start hT).fr hF).tryE ih h1 h2 h3 _ _ _ _ _ _ _ _
  rw [if_neg k15] at h
  by_cases k23 : kk = 23
  · rw [if_pos k23] at h
    subst k23
    obtain ⟨⟨f1, t1⟩, h1, h⟩ := bindO h
    obtain ⟨⟨f2, t2⟩, h2, h⟩ := bindO h
    obtain ⟨⟨f3, t3⟩, h3, h⟩ := bindO h
    obtain ⟨f4, h4, h⟩ := bindO h
    injection h with h
    subst h
    exact form_callcc fun W hF => ((Tx.start hT).fr hF).callccE ih h1 h2 h3 h4 _ _ _ _ _ _ _ _ _ _
  rw [if_neg k23] at h
  by_cases k25 : kk = 25
  · rw [if_pos k25] at h
    subst k25
    obtain ⟨⟨f1, t1⟩, h1, h⟩ := bindO h
    obtain ⟨⟨f2, t2⟩, h2, h⟩ := bindO h
    obtain ⟨⟨f3, t3⟩, h3, h⟩ := bindO h
    obtain ⟨f4, h4, h⟩ := bindO h
    obtain ⟨f5, t5⟩ := x
    exact form_throw fun W hF => ((Tx.start hT).fr hF).throwE ih h1 h2 h3 h4 h _ _ _ _ _ _ _ _ _ _
  rw [if_neg k25] at h
  obtain ⟨⟨f1, t1⟩, h1, h⟩ := bindO h
  obtain ⟨⟨f2, t2⟩, h2, h⟩ := bindO h
  obtain ⟨⟨f3, t3⟩, h3, h⟩ := bindO h
  obtain ⟨⟨f4, t4⟩, h4, h⟩ := bindO h
  obtain ⟨f5, h5, h⟩ := bindO h
  injection h with h
  subst h
  exact form_call k10 k11 k12 k13 k14 k15 k23 k25 fun W hF => ((Tx.start hT).fr hF).callE ih h1 h2 h3 h4 h5 _ _ _ _ _ _ _ _ _ _

theorem exp_all (N : Nat) : ∀ n, TIh K q (yExp K.t K.ms N n)
  | 0 => fun _ _ _ _ h => by cases h
  | n + 1 => fun f fx i x h => by
    rw [yExp] at h
    obtain ⟨⟨kk, nu, bi, e1, e2, e3, fs, am⟩, he, h⟩ := bindO h
    exact exp_e (exp_all N n) he x h
end
end Go.Proofs.YtklimomeendajaaGreatDoor
