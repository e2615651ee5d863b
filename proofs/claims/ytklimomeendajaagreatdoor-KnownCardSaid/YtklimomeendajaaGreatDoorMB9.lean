import Derived.Test.YtklimomeendajaaGreatDoorMB6
import Derived.Deep.LoopGhost
import Derived.Test.YtklimomeendajaaGreatDoorMA6
set_option linter.unusedVariables false
set_option linter.unusedSimpArgs false
/- Patterns (made by tools/mk_pat.py). -/
namespace Go.Proofs.YtklimomeendajaaGreatDoor
open Go.RowKit

/-- A pattern of the tree, as it lies. -/
theorem Tr.pa {w : World} {t : RS} {E P B : Value} {cE : List Value} (h : Tr w t E P B cE) {i : Int} {p : PT} (hp : patAt t i = some p) :
    ∃ (g cap n : Nat), P = .slice (some ⟨g, 0, none⟩) t.pats.length cap ∧ i = (n : Int) ∧ n < t.pats.length ∧ g < w.heap.size ∧ w.cell? ⟨g, n * 5, none⟩ = some (.int .i64 p.kind) ∧ w.cell? ⟨g, n * 5 + 1, none⟩ = some (.int .i64 p.num) ∧ w.cell? ⟨g, n * 5 + 2, none⟩ = some (.int .i64 p.binder) ∧
      w.cell? ⟨g, n * 5 + 3, none⟩ = some (.int .i64 p.first) ∧ w.cell? ⟨g, n * 5 + 4, none⟩ = some (.int .i64 p.second) := by
  unfold patAt at hp
  split at hp
  case isFalse => cases hp
  case isTrue h0 =>
  obtain ⟨hlt, rfl⟩ := List.getElem?_eq_some_iff.1 hp
  have hl := h.p
  rcases hl.2 with ⟨_, h0⟩ | ⟨g, cap, cur, rfl, hg⟩
  · omega
  · have := patCells_at t.pats i.toNat hlt
    refine ⟨g, cap, i.toNat, rfl, by omega, hlt, (hl.lt g rfl).2, ?_, ?_, ?_, ?_, ?_⟩
    · rw [World.ownsRow.cellAt hl _ (by omega)]; exact this.1
    · rw [World.ownsRow.cellAt hl _ (by omega)]; exact this.2.1
    · rw [World.ownsRow.cellAt hl _ (by omega)]; exact this.2.2.1
    · rw [World.ownsRow.cellAt hl _ (by omega)]; exact this.2.2.2.1
    · rw [World.ownsRow.cellAt hl _ (by omega)]; exact this.2.2.2.2

/-- The contract of pat. -/
def PCt (K : TC) (q : Nat) (f : FX) (fx : List Int) (i : Int) (x : FX × List Int × Int) : Prop := ∀ (w : World) (D : TD), Ty K q w f fx D →
  Calls Tryz.prog 227 #[.pointer (some ⟨q, 0, none⟩), .int .i64 i] w fun e w' => e = .returned (.int .i32 x.2.2) ∧ Tn K q w D w' x.1 x.2.1

section
variable {K : TC} {q : Nat} {w w0 : World} {f : FX} {fx : List Int} {D D0 : TD} {n : Nat} {i : Int}

theorem Tx.pat (h : Tx K q w0 D0 w D f fx) {x : FX × List Int × Int} (hx : PCt K q f fx i x) :
    Calls Tryz.prog 227 #[.pointer (some ⟨q, 0, none⟩), .int .i64 i] w (TR K q w0 D0 (.int .i32 x.2.2) x.1 x.2.1) :=
  (hx w D h.1).mono fun _ _ hh => ⟨hh.1, (h.go hh.2).imp fun _ h => h.1⟩

set_option maxHeartbeats 1000000 in
set_option maxRecDepth 100000 in
theorem pat_int (ih : ∀ f fx i x, yPat K.t n f fx i = some x → PCt K q f fx i x) {kk nu bi e1 e2 : Int} (hp : patAt K.t i = some ⟨kk, nu, bi, e1, e2⟩) (hk : kk = 1) : PCt K q f fx i (f, fx, 0) := by
  intro w D h
  obtain ⟨g, cap, m, hP, rfl, hm, hg, d0, d1, d2, d3, d4⟩ := h.tr.pa hp
  obtain ⟨⟨-, c1, -⟩, -⟩ := h.cells
  rw [hP] at c1
  have hqw := h.lt
  have hpl := row_le h.tr.p
  generalize hW : w.alloc (.cells #[.int .i64 kk, .int .i64 nu, .int .i64 bi, .int .i64 e1, .int .i64 e2] 315) = W
  have HFW : Hid (Fr (fun _ => False) w W) := by rw [← hW]; exact (Fr.refl _ w).alloc _
  have hbl : W.heap[w.heap.size]? = some (.cells #[.int .i64 kk, .int .i64 nu, .int .i64 bi, .int .i64 e1, .int .i64 e2] 315 (0, 0)) := by rw [← hW]; exact blk_new w _
  have HX0 : Hid (Tx K q W D W D f fx) := Tx.start (h.fr HFW.out)
  have hn := h.loc (Nat.le_refl _)
  have HL : Hid (∀ w' D' f' fx', Tx K q W D w' D' f' fx' → w'.heap[w.heap.size]? = some (.cells #[.int .i64 kk, .int .i64 nu, .int .i64 bi, .int .i64 e1, .int .i64 e2] 315 (0, 0))) := fun _ _ _ _ hx => hx.blk hn hbl
  obtain ⟨m0, m1, m2, m3, m4⟩ := cells5 hbl
  have hl0 := blk_lt hbl
  have hq0 := HX0.out.1.lt
  clear h hbl hn hp hP 
  rcases hk with rfl
  all_goals
    go_enter Tryz.func227, Tryz.ntmps227
    go_wp2_with fail
    go_ret
    exact ⟨rfl, HX0.out.n.pre (HFW.out.mono (fun _ h => h.elim))⟩

set_option maxHeartbeats 1000000 in
set_option maxRecDepth 100000 in
theorem pat_bool (ih : ∀ f fx i x, yPat K.t n f fx i = some x → PCt K q f fx i x) {kk nu bi e1 e2 : Int} (hp : patAt K.t i = some ⟨kk, nu, bi, e1, e2⟩) (hk : kk = 2 ∨ kk = 3) : PCt K q f fx i (f, fx, 1) := by
  intro w D h
  obtain ⟨g, cap, m, hP, rfl, hm, hg, d0, d1, d2, d3, d4⟩ := h.tr.pa hp
  obtain ⟨⟨-, c1, -⟩, -⟩ := h.cells
  rw [hP] at c1
  have hqw := h.lt
  have hpl := row_le h.tr.p
  generalize hW : w.alloc (.cells #[.int .i64 kk, .int .i64 nu, .int .i64 bi, .int .i64 e1, .int .i64 e2] 315) = W
  have HFW : Hid (Fr (fun _ => False) w W) := by rw [← hW]; exact (Fr.refl _ w).alloc _
  have hbl : W.heap[w.heap.size]? = some (.cells #[.int .i64 kk, .int .i64 nu, .int .i64 bi, .int .i64 e1, .int .i64 e2] 315 (0, 0)) := by rw [← hW]; exact blk_new w _
  have HX0 : Hid (Tx K q W D W D f fx) := Tx.start (h.fr HFW.out)
  have hn := h.loc (Nat.le_refl _)
  have HL : Hid (∀ w' D' f' fx', Tx K q W D w' D' f' fx' → w'.heap[w.heap.size]? = some (.cells #[.int .i64 kk, .int .i64 nu, .int .i64 bi, .int .i64 e1, .int .i64 e2] 315 (0, 0))) := fun _ _ _ _ hx => hx.blk hn hbl
  obtain ⟨m0, m1, m2, m3, m4⟩ := cells5 hbl
  have hl0 := blk_lt hbl
  have hq0 := HX0.out.1.lt
  clear h hbl hn hp hP 
  rcases hk with rfl | rfl
  all_goals
    go_enter Tryz.func227, Tryz.ntmps227
    go_wp2_with fail
    go_ret
    exact ⟨rfl, HX0.out.n.pre (HFW.out.mono (fun _ h => h.elim))⟩

set_option maxHeartbeats 1000000 in
set_option maxRecDepth 100000 in
theorem pat_empty (ih : ∀ f fx i x, yPat K.t n f fx i = some x → PCt K q f fx i x) {f0 f1 : FX} {t0 t1 : Int} (h1 : yNew f {} = some (f0, t0) ∧ yNew f0 { k := 3, a := t0 } = some (f1, t1)) {kk nu bi e1 e2 : Int} (hp : patAt K.t i = some ⟨kk, nu, bi, e1, e2⟩) (hk : kk = 5) : PCt K q f fx i (f1, fx, t1) := by
  intro w D h
  have H1 : Hid (yNew f {} = some (f0, t0) ∧ yNew f0 { k := 3, a := t0 } = some (f1, t1)) := h1
  obtain ⟨g, cap, m, hP, rfl, hm, hg, d0, d1, d2, d3, d4⟩ := h.tr.pa hp
  obtain ⟨⟨-, c1, -⟩, -⟩ := h.cells
  rw [hP] at c1
  have hqw := h.lt
  have hpl := row_le h.tr.p
  generalize hW : w.alloc (.cells #[.int .i64 kk, .int .i64 nu, .int .i64 bi, .int .i64 e1, .int .i64 e2] 315) = W
  have HFW : Hid (Fr (fun _ => False) w W) := by rw [← hW]; exact (Fr.refl _ w).alloc _
  have hbl : W.heap[w.heap.size]? = some (.cells #[.int .i64 kk, .int .i64 nu, .int .i64 bi, .int .i64 e1, .int .i64 e2] 315 (0, 0)) := by rw [← hW]; exact blk_new w _
  have HX0 : Hid (Tx K q W D W D f fx) := Tx.start (h.fr HFW.out)
  have hn := h.loc (Nat.le_refl _)
  have HL : Hid (∀ w' D' f' fx', Tx K q W D w' D' f' fx' → w'.heap[w.heap.size]? = some (.cells #[.int .i64 kk, .int .i64 nu, .int .i64 bi, .int .i64 e1, .int .i64 e2] 315 (0, 0))) := fun _ _ _ _ hx => hx.blk hn hbl
  obtain ⟨m0, m1, m2, m3, m4⟩ := cells5 hbl
  have hl0 := blk_lt hbl
  have hq0 := HX0.out.1.lt
  clear h hbl hn hp hP h1
  rcases hk with rfl
  all_goals
    go_enter Tryz.func227, Tryz.ntmps227
    go_wp2_with fail
    refine (HX0.out.empty H1.out.1 H1.out.2).mono ?_
    rintro r1 w1 ⟨rfl, D1, hX1⟩
    have HX1 : Hid (Tx K q W D w1 D1 f1 fx) := hX1
    have hb1 := HL.out _ _ _ _ hX1
    have hq1 := hX1.1.lt
    have hl1 := blk_lt hb1
    clear m0 m1 m2 m3 m4 hX1 HX0 hq0 hl0 hW
    obtain ⟨m0, m1, m2, m3, m4⟩ := cells5 hb1
    clear hb1
    go_wp2_with fail
    go_ret
    exact ⟨rfl, HX1.out.n.pre (HFW.out.mono (fun _ h => h.elim))⟩

set_option maxHeartbeats 1000000 in
set_option maxRecDepth 100000 in
theorem pat_pair {e1 e2 : Int} (ih : ∀ f fx i x, yPat K.t n f fx i = some x → PCt K q f fx i x) {f1 : FX} {t1 : Int} {x1 : List Int} (h1 : yPat K.t n f fx e1 = some (f1, x1, t1)) {f2 : FX} {t2 : Int} {x2 : List Int} (h2 : yPat K.t n f1 x1 e2 = some (f2, x2, t2)) {f3 : FX} {t3 : Int} (h3 : yNew f2 { k := 5, a := t1, b := t2 } = some (f3, t3)) {kk nu bi : Int} (hp : patAt K.t i = some ⟨kk, nu, bi, e1, e2⟩) (hk : kk = 7) : PCt K q f fx i (f3, x2, t3) := by
  intro w D h
  have H1 : Hid (yPat K.t n f fx e1 = some (f1, x1, t1)) := h1
  have H2 : Hid (yPat K.t n f1 x1 e2 = some (f2, x2, t2)) := h2
  have H3 : Hid (yNew f2 { k := 5, a := t1, b := t2 } = some (f3, t3)) := h3
  obtain ⟨g, cap, m, hP, rfl, hm, hg, d0, d1, d2, d3, d4⟩ := h.tr.pa hp
  obtain ⟨⟨-, c1, -⟩, -⟩ := h.cells
  rw [hP] at c1
  have hqw := h.lt
  have hpl := row_le h.tr.p
  generalize hW : w.alloc (.cells #[.int .i64 kk, .int .i64 nu, .int .i64 bi, .int .i64 e1, .int .i64 e2] 315) = W
  have HFW : Hid (Fr (fun _ => False) w W) := by rw [← hW]; exact (Fr.refl _ w).alloc _
  have hbl : W.heap[w.heap.size]? = some (.cells #[.int .i64 kk, .int .i64 nu, .int .i64 bi, .int .i64 e1, .int .i64 e2] 315 (0, 0)) := by rw [← hW]; exact blk_new w _
  have HX0 : Hid (Tx K q W D W D f fx) := Tx.start (h.fr HFW.out)
  have hn := h.loc (Nat.le_refl _)
  have HL : Hid (∀ w' D' f' fx', Tx K q W D w' D' f' fx' → w'.heap[w.heap.size]? = some (.cells #[.int .i64 kk, .int .i64 nu, .int .i64 bi, .int .i64 e1, .int .i64 e2] 315 (0, 0))) := fun _ _ _ _ hx => hx.blk hn hbl
  obtain ⟨m0, m1, m2, m3, m4⟩ := cells5 hbl
  have hl0 := blk_lt hbl
  have hq0 := HX0.out.1.lt
  clear h hbl hn hp hP h1 h2 h3
  rcases hk with rfl
  all_goals
    go_enter Tryz.func227, Tryz.ntmps227
    go_wp2_with fail
    refine (HX0.out.pat (ih _ _ _ _ H1.out)).mono ?_
    rintro r1 w1 ⟨rfl, D1, hX1⟩
    have HX1 : Hid (Tx K q W D w1 D1 f1 x1) := hX1
    have hb1 := HL.out _ _ _ _ hX1
    have hq1 := hX1.1.lt
    have hl1 := blk_lt hb1
    clear m0 m1 m2 m3 m4 hX1 HX0 hq0 hl0 hW
    obtain ⟨m0, m1, m2, m3, m4⟩ := cells5 hb1
    clear hb1
    go_wp2_with fail
    refine (HX1.out.pat (ih _ _ _ _ H2.out)).mono ?_
    rintro r2 w2 ⟨rfl, D2, hX2⟩
    have HX2 : Hid (Tx K q W D w2 D2 f2 x2) := hX2
    have hb2 := HL.out _ _ _ _ hX2
    have hq2 := hX2.1.lt
    have hl2 := blk_lt hb2
    clear m0 m1 m2 m3 m4 hX2 HX1 hq1 hl1
    obtain ⟨m0, m1, m2, m3, m4⟩ := cells5 hb2
    clear hb2
    go_wp2_with fail
    refine (HX2.out.pair H3.out).mono ?_
    rintro r3 w3 ⟨rfl, D3, hX3⟩
    have HX3 : Hid (Tx K q W D w3 D3 f3 x2) := hX3
    have hb3 := HL.out _ _ _ _ hX3
    have hq3 := hX3.1.lt
    have hl3 := blk_lt hb3
    clear m0 m1 m2 m3 m4 hX3 HX2 hq2 hl2
    obtain ⟨m0, m1, m2, m3, m4⟩ := cells5 hb3
    clear hb3
    go_wp2_with fail
    go_ret
    exact ⟨rfl, HX3.out.n.pre (HFW.out.mono (fun _ h => h.elim))⟩

set_option maxHeartbeats 1000000 in
set_option maxRecDepth 100000 in
theorem pat_cons {e1 e2 : Int} (ih : ∀ f fx i x, yPat K.t n f fx i = some x → PCt K q f fx i x) {f1 : FX} {t1 : Int} {x1 : List Int} (h1 : yPat K.t n f fx e1 = some (f1, x1, t1)) {f2 : FX} {t2 : Int} (h2 : yNew f1 { k := 3, a := t1 } = some (f2, t2)) {f3 : FX} {t3 : Int} {x3 : List Int} (h3 : yPat K.t n f2 x1 e2 = some (f3, x3, t3)) {f4 : FX} (h4 : ySame n f3 t3 t2 = some f4) {kk nu bi : Int} (hp : patAt K.t i = some ⟨kk, nu, bi, e1, e2⟩) (hk : kk = 8) : PCt K q f fx i (f4, x3, t2) := by
  intro w D h
  have H1 : Hid (yPat K.t n f fx e1 = some (f1, x1, t1)) := h1
  have H2 : Hid (yNew f1 { k := 3, a := t1 } = some (f2, t2)) := h2
  have H3 : Hid (yPat K.t n f2 x1 e2 = some (f3, x3, t3)) := h3
  have H4 : Hid (ySame n f3 t3 t2 = some f4) := h4
  obtain ⟨g, cap, m, hP, rfl, hm, hg, d0, d1, d2, d3, d4⟩ := h.tr.pa hp
  obtain ⟨⟨-, c1, -⟩, -⟩ := h.cells
  rw [hP] at c1
  have hqw := h.lt
  have hpl := row_le h.tr.p
  generalize hW : w.alloc (.cells #[.int .i64 kk, .int .i64 nu, .int .i64 bi, .int .i64 e1, .int .i64 e2] 315) = W
  have HFW : Hid (Fr (fun _ => False) w W) := by rw [← hW]; exact (Fr.refl _ w).alloc _
  have hbl : W.heap[w.heap.size]? = some (.cells #[.int .i64 kk, .int .i64 nu, .int .i64 bi, .int .i64 e1, .int .i64 e2] 315 (0, 0)) := by rw [← hW]; exact blk_new w _
  have HX0 : Hid (Tx K q W D W D f fx) := Tx.start (h.fr HFW.out)
  have hn := h.loc (Nat.le_refl _)
  have HL : Hid (∀ w' D' f' fx', Tx K q W D w' D' f' fx' → w'.heap[w.heap.size]? = some (.cells #[.int .i64 kk, .int .i64 nu, .int .i64 bi, .int .i64 e1, .int .i64 e2] 315 (0, 0))) := fun _ _ _ _ hx => hx.blk hn hbl
  obtain ⟨m0, m1, m2, m3, m4⟩ := cells5 hbl
  have hl0 := blk_lt hbl
  have hq0 := HX0.out.1.lt
  clear h hbl hn hp hP h1 h2 h3 h4
  rcases hk with rfl
  all_goals
    go_enter Tryz.func227, Tryz.ntmps227
    go_wp2_with fail
    refine (HX0.out.pat (ih _ _ _ _ H1.out)).mono ?_
    rintro r1 w1 ⟨rfl, D1, hX1⟩
    have HX1 : Hid (Tx K q W D w1 D1 f1 x1) := hX1
    have hb1 := HL.out _ _ _ _ hX1
    have hq1 := hX1.1.lt
    have hl1 := blk_lt hb1
    clear m0 m1 m2 m3 m4 hX1 HX0 hq0 hl0 hW
    obtain ⟨m0, m1, m2, m3, m4⟩ := cells5 hb1
    clear hb1
    go_wp2_with fail
    refine (HX1.out.list H2.out).mono ?_
    rintro r2 w2 ⟨rfl, D2, hX2⟩
    have HX2 : Hid (Tx K q W D w2 D2 f2 x1) := hX2
    have hb2 := HL.out _ _ _ _ hX2
    have hq2 := hX2.1.lt
    have hl2 := blk_lt hb2
    clear m0 m1 m2 m3 m4 hX2 HX1 hq1 hl1
    obtain ⟨m0, m1, m2, m3, m4⟩ := cells5 hb2
    clear hb2
    go_wp2_with fail
    refine (HX2.out.pat (ih _ _ _ _ H3.out)).mono ?_
    rintro r3 w3 ⟨rfl, D3, hX3⟩
    have HX3 : Hid (Tx K q W D w3 D3 f3 x3) := hX3
    have hb3 := HL.out _ _ _ _ hX3
    have hq3 := hX3.1.lt
    have hl3 := blk_lt hb3
    clear m0 m1 m2 m3 m4 hX3 HX2 hq2 hl2
    obtain ⟨m0, m1, m2, m3, m4⟩ := cells5 hb3
    clear hb3
    go_wp2_with fail
    refine (HX3.out.same H4.out).mono ?_
    rintro r4 w4 ⟨rfl, D4, hX4⟩
    have HX4 : Hid (Tx K q W D w4 D4 f4 x3) := hX4
    have hb4 := HL.out _ _ _ _ hX4
    have hq4 := hX4.1.lt
    have hl4 := blk_lt hb4
    clear m0 m1 m2 m3 m4 hX4 HX3 hq3 hl3
    obtain ⟨m0, m1, m2, m3, m4⟩ := cells5 hb4
    clear hb4
    go_wp2_with fail
    go_ret
    exact ⟨rfl, HX4.out.n.pre (HFW.out.mono (fun _ h => h.elim))⟩

set_option maxHeartbeats 1000000 in
set_option maxRecDepth 100000 in
theorem pat_name {bi : Int} (ih : ∀ f fx i x, yPat K.t n f fx i = some x → PCt K q f fx i x) {f1 : FX} {t1 : Int} (h1 : yNew f {} = some (f1, t1)) {f2 : FX} {x2 : List Int} (h2 : yFix f1 fx bi t1 = some (f2, x2)) {kk nu e1 e2 : Int} (hp : patAt K.t i = some ⟨kk, nu, bi, e1, e2⟩) (hk : kk = 4) : PCt K q f fx i (f2, x2, t1) := by
  intro w D h
  have H1 : Hid (yNew f {} = some (f1, t1)) := h1
  have H2 : Hid (yFix f1 fx bi t1 = some (f2, x2)) := h2
  obtain ⟨g, cap, m, hP, rfl, hm, hg, d0, d1, d2, d3, d4⟩ := h.tr.pa hp
  obtain ⟨⟨-, c1, -⟩, -⟩ := h.cells
  rw [hP] at c1
  have hqw := h.lt
  have hpl := row_le h.tr.p
  generalize hW : w.alloc (.cells #[.int .i64 kk, .int .i64 nu, .int .i64 bi, .int .i64 e1, .int .i64 e2] 315) = W
  have HFW : Hid (Fr (fun _ => False) w W) := by rw [← hW]; exact (Fr.refl _ w).alloc _
  have hbl : W.heap[w.heap.size]? = some (.cells #[.int .i64 kk, .int .i64 nu, .int .i64 bi, .int .i64 e1, .int .i64 e2] 315 (0, 0)) := by rw [← hW]; exact blk_new w _
  have HX0 : Hid (Tx K q W D W D f fx) := Tx.start (h.fr HFW.out)
  have hn := h.loc (Nat.le_refl _)
  have HL : Hid (∀ w' D' f' fx', Tx K q W D w' D' f' fx' → w'.heap[w.heap.size]? = some (.cells #[.int .i64 kk, .int .i64 nu, .int .i64 bi, .int .i64 e1, .int .i64 e2] 315 (0, 0))) := fun _ _ _ _ hx => hx.blk hn hbl
  obtain ⟨m0, m1, m2, m3, m4⟩ := cells5 hbl
  have hl0 := blk_lt hbl
  have hq0 := HX0.out.1.lt
  clear h hbl hn hp hP h1 h2
  rcases hk with rfl
  all_goals
    go_enter Tryz.func227, Tryz.ntmps227
    go_wp2_with fail
    refine (HX0.out.unknown H1.out).mono ?_
    rintro r1 w1 ⟨rfl, D1, hX1⟩
    have HX1 : Hid (Tx K q W D w1 D1 f1 fx) := hX1
    have hb1 := HL.out _ _ _ _ hX1
    have hq1 := hX1.1.lt
    have hl1 := blk_lt hb1
    clear m0 m1 m2 m3 m4 hX1 HX0 hq0 hl0 hW
    obtain ⟨m0, m1, m2, m3, m4⟩ := cells5 hb1
    clear hb1
    go_wp2_with fail
    refine (HX1.out.fix H2.out).mono ?_
    rintro r2 w2 ⟨rfl, D2, hX2⟩
    have HX2 : Hid (Tx K q W D w2 D2 f2 x2) := hX2
    have hb2 := HL.out _ _ _ _ hX2
    have hq2 := hX2.1.lt
    have hl2 := blk_lt hb2
    clear m0 m1 m2 m3 m4 hX2 HX1 hq1 hl1
    obtain ⟨m0, m1, m2, m3, m4⟩ := cells5 hb2
    clear hb2
    go_wp2_with fail
    go_ret
    exact ⟨rfl, HX2.out.n.pre (HFW.out.mono (fun _ h => h.elim))⟩

set_option maxHeartbeats 1000000 in
set_option maxRecDepth 100000 in
theorem pat_any (ih : ∀ f fx i x, yPat K.t n f fx i = some x → PCt K q f fx i x) {f1 : FX} {t1 : Int} (h1 : yNew f {} = some (f1, t1)) {kk nu bi e1 e2 : Int} (hp : patAt K.t i = some ⟨kk, nu, bi, e1, e2⟩) (n1 : ¬ kk = 1) (n2 : ¬ kk = 2) (n3 : ¬ kk = 3) (n5 : ¬ kk = 5) (n7 : ¬ kk = 7) (n8 : ¬ kk = 8) (n4 : ¬ kk = 4) : PCt K q f fx i (f1, fx, t1) := by
  intro w D h
  have H1 : Hid (yNew f {} = some (f1, t1)) := h1
  obtain ⟨g, cap, m, hP, rfl, hm, hg, d0, d1, d2, d3, d4⟩ := h.tr.pa hp
  obtain ⟨⟨-, c1, -⟩, -⟩ := h.cells
  rw [hP] at c1
  have hqw := h.lt
  have hpl := row_le h.tr.p
  generalize hW : w.alloc (.cells #[.int .i64 kk, .int .i64 nu, .int .i64 bi, .int .i64 e1, .int .i64 e2] 315) = W
  have HFW : Hid (Fr (fun _ => False) w W) := by rw [← hW]; exact (Fr.refl _ w).alloc _
  have hbl : W.heap[w.heap.size]? = some (.cells #[.int .i64 kk, .int .i64 nu, .int .i64 bi, .int .i64 e1, .int .i64 e2] 315 (0, 0)) := by rw [← hW]; exact blk_new w _
  have HX0 : Hid (Tx K q W D W D f fx) := Tx.start (h.fr HFW.out)
  have hn := h.loc (Nat.le_refl _)
  have HL : Hid (∀ w' D' f' fx', Tx K q W D w' D' f' fx' → w'.heap[w.heap.size]? = some (.cells #[.int .i64 kk, .int .i64 nu, .int .i64 bi, .int .i64 e1, .int .i64 e2] 315 (0, 0))) := fun _ _ _ _ hx => hx.blk hn hbl
  obtain ⟨m0, m1, m2, m3, m4⟩ := cells5 hbl
  have hl0 := blk_lt hbl
  have hq0 := HX0.out.1.lt
  clear h hbl hn hp hP h1
  go_enter Tryz.func227, Tryz.ntmps227
  go_wp2_with fail
  refine (HX0.out.unknown H1.out).mono ?_
  rintro r1 w1 ⟨rfl, D1, hX1⟩
  have HX1 : Hid (Tx K q W D w1 D1 f1 fx) := hX1
  have hb1 := HL.out _ _ _ _ hX1
  have hq1 := hX1.1.lt
  have hl1 := blk_lt hb1
  clear m0 m1 m2 m3 m4 hX1 HX0 hq0 hl0 hW
  obtain ⟨m0, m1, m2, m3, m4⟩ := cells5 hb1
  clear hb1
  go_wp2_with fail
  go_ret
  exact ⟨rfl, HX1.out.n.pre (HFW.out.mono (fun _ h => h.elim))⟩

theorem pat_all : ∀ (n : Nat) (f : FX) (fx : List Int) (i : Int) (x : FX × List Int × Int), yPat K.t n f fx i = some x → PCt K q f fx i x
  | 0, _, _, _, _, h => by cases h
  | n + 1, f, fx, i, x, h => by
    have ih := pat_all n
    rw [yPat] at h
    obtain ⟨⟨kk, nu, bi, e1, e2⟩, hp, h⟩ := bindO h
    dsimp only at h
    by_cases k1 : kk = 1
    · rw [if_pos k1] at h
      injection h with h
      subst h
      exact pat_int ih hp k1
    rw [if_neg k1] at h
    by_cases k23 : kk = 2 ∨ kk = 3
    · rw [if_pos k23] at h
      injection h with h
      subst h
      exact pat_bool ih hp k23
    rw [if_neg k23] at h
    by_cases k5 : kk = 5
    · rw [if_pos k5] at h
      obtain ⟨⟨f0, t0⟩, h1, h⟩ := bindO h
      obtain ⟨⟨f1, t1⟩, h2, h⟩ := bindO h
      injection h with h
      subst h
      exact pat_empty ih ⟨h1, h2⟩ hp k5
    rw [if_neg k5] at h
    by_cases k7 : kk = 7
    · rw [if_pos k7] at h
      obtain ⟨⟨f1, x1, t1⟩, h1, h⟩ := bindO h
      obtain ⟨⟨f2, x2, t2⟩, h2, h⟩ := bindO h
      obtain ⟨⟨f3, t3⟩, h3, h⟩ := bindO h
      injection h with h
      subst h
      exact pat_pair ih h1 h2 h3 hp k7
    rw [if_neg k7] at h
    by_cases k8 : kk = 8
    · rw [if_pos k8] at h
      obtain ⟨⟨f1, x1, t1⟩, h1, h⟩ := bindO h
      obtain ⟨⟨f2, t2⟩, h2, h⟩ := bindO h
      obtain ⟨⟨f3, x3, t3⟩, h3, h⟩ := bindO h
      obtain ⟨f4, h4, h⟩ := bindO h
      injection h with h
      subst h
      exact pat_cons ih h1 h2 h3 h4 hp k8
    rw [if_neg k8] at h
    obtain ⟨⟨f1, t1⟩, h1, h⟩ := bindO h
    by_cases k4 : kk = 4
    · rw [if_pos k4] at h
      obtain ⟨⟨f2, x2⟩, h2, h⟩ := bindO h
      injection h with h
      subst h
      exact pat_name ih h1 h2 hp k4
    rw [if_neg k4] at h
    injection h with h
    subst h
    exact pat_any ih h1 hp k1 (fun h => k23 (.inl h)) (fun h => k23 (.inr h)) k5 k7 k8 k4
end
end Go.Proofs.YtklimomeendajaaGreatDoor

/- match. -/
namespace Go.Proofs.YtklimomeendajaaGreatDoor
open Go.RowKit

theorem yFix_pre {f f' : FX} {fx fx' : List Int} {b t : Int} (h : yFix f fx b t = some (f', fx')) : fx' = fx ++ [t] := by
  unfold yFix at h
  split at h
  · obtain ⟨g, -, h⟩ := bindO h
    injection h with h
    injection h with _ h
    exact h.symm
  · cases h

theorem yPat_pre {t : RS} : ∀ (n : Nat) (f : FX) (fx : List Int) (i : Int) (x : FX × List Int × Int), yPat t n f fx i = some x → ∃ l, x.2.1 = fx ++ l
  | 0, _, _, _, _, h => by cases h
  | n + 1, f, fx, i, x, h => by
    have ih := yPat_pre (t := t) n
    rw [yPat] at h
    obtain ⟨⟨kk, nu, bi, e1, e2⟩, hp, h⟩ := bindO h
    dsimp only at h
    split at h
    · injection h with h; subst h; exact ⟨[], by simp⟩
    split at h
    · injection h with h; subst h; exact ⟨[], by simp⟩
    split at h
    · obtain ⟨⟨f0, t0⟩, h1, h⟩ := bindO h
      obtain ⟨⟨f1, t1⟩, h2, h⟩ := bindO h
      injection h with h; subst h; exact ⟨[], by simp⟩
    split at h
    · obtain ⟨⟨f1, x1, t1⟩, h1, h⟩ := bindO h
      obtain ⟨⟨f2, x2, t2⟩, h2, h⟩ := bindO h
      obtain ⟨⟨f3, t3⟩, h3, h⟩ := bindO h
      injection h with h; subst h
      obtain ⟨l1, e1⟩ := ih _ _ _ _ h1
      obtain ⟨l2, e2⟩ := ih _ _ _ _ h2
      dsimp only at e1 e2
      exact ⟨l1 ++ l2, by show x2 = _; rw [e2, e1, List.append_assoc]⟩
    split at h
    · obtain ⟨⟨f1, x1, t1⟩, h1, h⟩ := bindO h
      obtain ⟨⟨f2, t2⟩, h2, h⟩ := bindO h
      obtain ⟨⟨f3, x3, t3⟩, h3, h⟩ := bindO h
      obtain ⟨f4, h4, h⟩ := bindO h
      injection h with h; subst h
      obtain ⟨l1, e1⟩ := ih _ _ _ _ h1
      obtain ⟨l2, e2⟩ := ih _ _ _ _ h3
      dsimp only at e1 e2
      exact ⟨l1 ++ l2, by show x3 = _; rw [e2, e1, List.append_assoc]⟩
    obtain ⟨⟨f1, t1⟩, h1, h⟩ := bindO h
    split at h
    · obtain ⟨⟨f2, x2⟩, h2, h⟩ := bindO h
      injection h with h; subst h
      exact ⟨[t1], yFix_pre h2⟩
    · injection h with h; subst h; exact ⟨[], by simp⟩

section
variable {K : TC} {q : Nat} {w w0 : World} {f : FX} {fx : List Int} {D D0 : TD} {R : FX → List Int → Int → Option (FX × Int)} {n : Nat} {e1 : Int} {am : List (Int × Int)}

/-- A row that is older than the finder. -/
theorem Tx.old {v : Value} {e : TypeId} {z k : Nat} {xs : List Value} (h : Tx K q w0 D0 w D f fx) (hb : ∀ b, tow q D0 b → K.b0 ≤ b) (hr : w0.ownsRow 0 e z v k xs) (ho : ∀ b, v.ownBlock = some b → b < K.b0) : w.ownsRow 0 e z v k xs :=
  rowKeep h.2.1 hr fun b hv ht => by have := hb b ht; have := ho b hv; omega

set_option maxHeartbeats 1000000 in
set_option maxRecDepth 100000 in
theorem Tx.matchE (h : Tx K q w0 D0 w D f fx) (ih : TIh K q R) {f1 f2 f3 : FX} {t1 t2 : Int} (h1 : R f fx e1 = some (f1, t1)) (h2 : yNew f1 {} = some (f2, t2)) (h3 : yArms K.t n R t1 t2 fx am f2 = some f3) (kk nu bi e2 e3 : Int) (fa aa : Option Addr) (fl fc ac : Nat)
    (hra : w.ownsRow 0 264 2 (.slice aa am.length ac) am.length (armCells am)) (hro : ∀ b, (Value.slice aa am.length ac).ownBlock = some b → b < K.b0) :
    Calls Tryz.prog 178 #[.pointer (some ⟨q, 0, none⟩), .agg #[.int .i64 kk, .int .i64 nu, .int .i64 bi, .int .i64 e1, .int .i64 e2, .int .i64 e3, .slice fa fl fc, .slice aa am.length ac]] w (TR K q w0 D0 (.int .i32 t2) f3 fx) := by
  have H1 : Hid (R f fx e1 = some (f1, t1)) := h1
  have H2 : Hid (yNew f1 {} = some (f2, t2)) := h2
  have H3 : Hid (yArms K.t n R t1 t2 fx am f2 = some f3) := h3
  have HT : Hid (Tx K q w0 D0 w D f fx) := h
  generalize hW : w.alloc (.cells #[.int .i64 kk, .int .i64 nu, .int .i64 bi, .int .i64 e1, .int .i64 e2, .int .i64 e3, .slice fa fl fc, .slice aa am.length ac] 162) = W
  have HFW : Hid (Fr (fun _ => False) w W) := by rw [← hW]; exact (Fr.refl _ w).alloc _
  have hbl : W.heap[w.heap.size]? = some (.cells #[.int .i64 kk, .int .i64 nu, .int .i64 bi, .int .i64 e1, .int .i64 e2, .int .i64 e3, .slice fa fl fc, .slice aa am.length ac] 162 (0, 0)) := by rw [← hW]; exact blk_new w _
  have HX0 : Hid (Tx K q W D W D f fx) := Tx.start (h.1.fr HFW.out)
  have hn := h.1.loc (Nat.le_refl _)
  have HL : Hid (∀ w' D' f' fx', Tx K q W D w' D' f' fx' → w'.heap[w.heap.size]? = some (.cells #[.int .i64 kk, .int .i64 nu, .int .i64 bi, .int .i64 e1, .int .i64 e2, .int .i64 e3, .slice fa fl fc, .slice aa am.length ac] 162 (0, 0))) := fun _ _ _ _ hx => hx.blk hn hbl
  have hraW : W.ownsRow 0 264 2 (.slice aa am.length ac) am.length (armCells am) := rowKeep HFW.out hra fun _ _ h => h
  have HRA : Hid (∀ w' D' f' fx', Tx K q W D w' D' f' fx' → w'.ownsRow 0 264 2 (.slice aa am.length ac) am.length (armCells am)) := fun _ _ _ _ hx => hx.old (fun b hb => (h.1.own_lt b hb).1) hraW hro
  have hal := row_le hra
  obtain ⟨m0, m1, m2, m3, m4, m5, m6, m7⟩ := cells8 hbl
  have hl0 := blk_lt hbl
  have hfl := row_le h.1.x
  clear h hbl hn h1 h2 h3 hra hro hraW
  go_enter Tryz.func178, Tryz.ntmps178
  go_wp2_with fail
  refine (HX0.out.exp ih H1.out).mono ?_
  rintro r1 w1 ⟨rfl, D1, hX1⟩
  have HX1 : Hid (Tx K q W D w1 D1 f1 fx) := hX1
  have hq1 := hX1.1.lt
  clear m0 m1 m2 m3 m4 m5 m6 m7 hX1 HX0 hW hl0
  go_wp2_with fail
  refine (HX1.out.unknown H2.out).mono ?_
  rintro r2 w2 ⟨rfl, D2, hX2⟩
  have HX2 : Hid (Tx K q W D w2 D2 f2 fx) := hX2
  have hq2 := hX2.1.lt
  obtain ⟨⟨-, -, -, -, -, c9, -⟩, -⟩ := hX2.1.cells
  obtain ⟨va, vc, hFV⟩ := ownsRow_len hX2.1.x
  rw [hFV] at c9
  clear hX2 HX1 hq1 hFV
  go_wp2_with fail
  clear c9 hq2
  go_loopg [8] am.length (fun k iv wr => ∃ (j : Nat) (fk : FX) (Dk : TD), iv = .int .i64 j ∧ j ≤ am.length ∧ k = am.length - j ∧ yArms K.t n R t1 t2 fx (am.drop j) fk = some f3 ∧ Tx K q W D wr Dk fk fx)
  case atStart => exact ⟨0, f2, D2, rfl, Nat.zero_le _, rfl, H3.out, HX2.out⟩
  case round =>
    obtain ⟨j, fk, Dk, rfl, hj, hk, hA, hX⟩ := hrel
    have HM : Hid (gk = am.length - j) := hk
    have HX : Hid (Tx K q W D wr Dk fk fx) := hX
    obtain ⟨m0, m1, m2, m3, m4, m5, m6, m7⟩ := cells8 (HL.out _ _ _ _ hX)
    have hl := blk_lt (HL.out _ _ _ _ hX)
    clear hk HX2 H3
    by_cases hjl : j < am.length
    · obtain ⟨g, cap, hE, a0, a1⟩ := armRow (HRA.out _ _ _ _ hX) hjl
      cases hE
      rw [List.drop_eq_getElem_cons hjl] at hA
      rw [yArms] at hA
      obtain ⟨⟨f4, x4, t4⟩, hp, hA1⟩ := bindO hA
      obtain ⟨f5, hs, hA2⟩ := bindO hA1
      obtain ⟨f6, hw, hA3⟩ := bindO hA2
      clear hA hA1 hA2
      obtain ⟨l4, hl4⟩ := yPat_pre _ _ _ _ _ hp
      dsimp only at hl4
      subst hl4
      obtain ⟨aj1, aj2, haj⟩ : ∃ aj1 aj2, am[j] = (aj1, aj2) := ⟨_, _, rfl⟩
      have HAJ : Hid (am[j] = (aj1, aj2)) := haj
      rw [haj] at hp hw a0 a1
      clear haj
      have HP : Hid (PCt K q fk fx aj1 (f4, fx ++ l4, t4)) := pat_all _ _ _ _ _ hp
      have HS : Hid (ySame n f4 t1 t4 = some f5) := hs
      have HWt : Hid (yWant n R f5 (fx ++ l4) aj2 t2 = some f6) := hw
      have HA : Hid (yArms K.t n R t1 t2 fx (am.drop (j + 1)) f6 = some f3) := hA3
      have hgl : g < wr.heap.size := ((HRA.out _ _ _ _ hX).lt g rfl).2
      clear hX hA3 hp hs hw
      go_wp2_with fail
      refine (HX.out.pat HP.out).mono ?_
      rintro r4 w4 ⟨rfl, D4, hX4⟩
      have HX4 : Hid (Tx K q W D w4 D4 f4 (fx ++ l4)) := hX4
      clear m0 m1 m2 m3 m4 m5 m6 m7 hX4 hl a0 a1 hgl
      go_wp2_with fail
      refine (HX4.out.same HS.out).mono ?_
      rintro r5 w5 ⟨rfl, D5, hX5⟩
      have HX5 : Hid (Tx K q W D w5 D5 f5 (fx ++ l4)) := hX5
      obtain ⟨m0, m1, m2, m3, m4, m5, m6, m7⟩ := cells8 (HL.out _ _ _ _ hX5)
      have hl := blk_lt (HL.out _ _ _ _ hX5)
      obtain ⟨g', cap', hE, a0, a1⟩ := armRow (HRA.out _ _ _ _ hX5) hjl
      cases hE
      have hgl : g < w5.heap.size := ((HRA.out _ _ _ _ hX5).lt g rfl).2
      rw [HAJ.out] at a0 a1
      clear hX5 HX4
      go_wp2_with fail
      refine (HX5.out.want ih HWt.out).mono ?_
      rintro r6 w6 ⟨rfl, D6, hX6⟩
      obtain ⟨⟨-, -, -, -, -, c9, -⟩, hfz⟩ := hX6.1.cells
      have f9 := hfz 9
      have hq6 := hX6.1.lt
      obtain ⟨va6, vc6, hFV⟩ := ownsRow_len hX6.1.x
      have hcap := hX6.1.x
      rw [hFV] at hcap
      have hcap := ownsRow_cap hcap
      rw [hFV] at c9
      have HX6 : Hid (Tx K q W D (w6.setCell ⟨q, 9, none⟩ (.slice va6 fx.length vc6)) { D6 with FV := .slice va6 fx.length vc6 } f6 fx) := hX6.back hFV
      rw [List.length_append] at hcap
      rw [List.length_append] at c9
      have hle : fx.length ≤ vc6 := by omega
      have hll : fx.length + l4.length ≤ 9223372036854775807 := by have := row_le hX6.1.x; simpa using this
      clear hX6 hFV hfz m0 m1 m2 m3 m4 m5 m6 m7 hl a0 a1 hgl HX5
      go_wp2_with fail
      go_roundg (am.length - (j + 1))
      case measure => rw [HM.out]; omega
      case rel => exact ⟨j + 1, f6, _, by go_num, by omega, rfl, HA.out, HX6.out⟩
    · obtain rfl : j = am.length := by omega
      rw [List.drop_length, yArms] at hA
      injection hA with hA
      subst hA
      clear hX
      go_wp2_with fail
      go_ret
      exact ⟨rfl, ((HT.out.fr HFW.out).go HX.out.n).imp fun _ h => h.1⟩
end
end Go.Proofs.YtklimomeendajaaGreatDoor

/- letRec. -/
namespace Go.Proofs.YtklimomeendajaaGreatDoor
open Go.RowKit

section
variable {K : TC} {q : Nat} {w w' w0 w1 w2 : World} {f f' : FX} {fx fx' : List Int} {D D' D0 : TD} {R : FX → List Int → Int → Option (FX × Int)} {n : Nat} {e1 : Int} {fs : List (Int × Int × Int)}

theorem Tx.comp (h : Tx K q w0 D0 w D f fx) (h2 : Tx K q w D w' D' f' fx') : Tx K q w0 D0 w' D' f' fx' :=
  ⟨h2.1, h.2.1.trans h2.2.1 h.2.2, fun b hb => by
    rcases h2.2.2 b hb with h3 | h3
    · exact h.2.2 b h3
    · have := h.2.1.size; right; omega⟩

/-- A row of the call's own grows. -/
theorem Tx.row {row : Option Nat} (h : Tx K q w0 D0 w D f fx) (hF : Fr (fun _ => False) w w1) (hg : w1.grownBy w2 row) (hb : K.b0 ≤ w0.heap.size) (hr : ∀ b, row = some b → w0.heap.size ≤ b ∧ ¬ tow q D b) : Tx K q w0 D0 w2 D f fx := by
  have hF2 : Fr (fun b => row = some b) w1 w2 := (Fr.refl _ w1).grown hg fun k hk => .inl hk
  exact ⟨(h.1.fr hF).frX hF2 (fun b hb' => by have := hr b hb'; exact ⟨by omega, this.2⟩), (h.2.1.trans hF (fun _ h => h.elim)).trans hF2 (fun b hb' => .inr (hr b hb').1), h.2.2⟩

theorem drop_consF {j : Nat} (hj : j < fs.length) : fs.drop j = fs[j] :: fs.drop (j + 1) := List.drop_eq_getElem_cons hj

set_option maxHeartbeats 1600000 in
set_option maxRecDepth 100000 in
theorem Tx.letRecE (h : Tx K q w0 D0 w D f fx) (ih : TIh K q R) {f1 f2 f3 : FX} {fx1 rs1 : List Int} {x : FX × Int} (h1 : yFuns fs f fx [] = some (f1, fx1, rs1)) (h2 : yBodies n R fs rs1 f1 fx1 = some f2) (h3 : yOpens n fx fs f2 = some f3) (h4 : R f3 fx e1 = some x) (kk nu bi e2 e3 : Int) (fa aa : Option Addr) (fc al ac : Nat)
    (hrf : w.ownsRow 0 165 3 (.slice fa fs.length fc) fs.length (funCells fs)) (hro : ∀ b, (Value.slice fa fs.length fc).ownBlock = some b → b < K.b0) :
    Calls Tryz.prog 175 #[.pointer (some ⟨q, 0, none⟩), .agg #[.int .i64 kk, .int .i64 nu, .int .i64 bi, .int .i64 e1, .int .i64 e2, .int .i64 e3, .slice fa fs.length fc, .slice aa al ac]] w (TR K q w0 D0 (.int .i32 x.2) x.1 fx) := by
  have H1 : Hid (yFuns fs f fx [] = some (f1, fx1, rs1)) := h1
  have H2 : Hid (yBodies n R fs rs1 f1 fx1 = some f2) := h2
  have H3 : Hid (yOpens n fx fs f2 = some f3) := h3
  have H4 : Hid (R f3 fx e1 = some x) := h4
  have HT : Hid (Tx K q w0 D0 w D f fx) := h
  generalize hW : w.alloc (.cells #[.int .i64 kk, .int .i64 nu, .int .i64 bi, .int .i64 e1, .int .i64 e2, .int .i64 e3, .slice fa fs.length fc, .slice aa al ac] 162) = W
  have HFW : Hid (Fr (fun _ => False) w W) := by rw [← hW]; exact (Fr.refl _ w).alloc _
  have hbl : W.heap[w.heap.size]? = some (.cells #[.int .i64 kk, .int .i64 nu, .int .i64 bi, .int .i64 e1, .int .i64 e2, .int .i64 e3, .slice fa fs.length fc, .slice aa al ac] 162 (0, 0)) := by rw [← hW]; exact blk_new w _
  have HX0 : Hid (Tx K q W D W D f fx) := Tx.start (h.1.fr HFW.out)
  have hn := h.1.loc (Nat.le_refl _)
  have HL : Hid (∀ w' D' f' fx', Tx K q W D w' D' f' fx' → w'.heap[w.heap.size]? = some (.cells #[.int .i64 kk, .int .i64 nu, .int .i64 bi, .int .i64 e1, .int .i64 e2, .int .i64 e3, .slice fa fs.length fc, .slice aa al ac] 162 (0, 0))) := fun _ _ _ _ hx => hx.blk hn hbl
  have hrfW : W.ownsRow 0 165 3 (.slice fa fs.length fc) fs.length (funCells fs) := rowKeep HFW.out hrf fun _ _ h => h
  have HRF : Hid (∀ w' D' f' fx', Tx K q W D w' D' f' fx' → w'.ownsRow 0 165 3 (.slice fa fs.length fc) fs.length (funCells fs)) := fun _ _ _ _ hx => hx.old (fun b hb => (h.1.own_lt b hb).1) hrfW hro
  have HB0 : Hid (K.b0 ≤ W.heap.size) := by show K.b0 ≤ W.heap.size; have := HX0.out.1.new q (.inl rfl); have := HX0.out.1.lt; omega
  have hal := row_le hrf
  obtain ⟨m0, m1, m2, m3, m4, m5, m6, m7⟩ := cells8 hbl
  have hl0 := blk_lt hbl
  have hfl := row_le h.1.x
  obtain ⟨⟨-, -, -, -, -, c9, -⟩, -⟩ := HX0.out.1.cells
  obtain ⟨va, vc, hFV⟩ := ownsRow_len h.1.x
  rw [hFV] at c9
  have hq0 := HX0.out.1.lt
  clear h hbl hn h1 h2 h3 h4 hrf hro hrfW hFV
  go_enter Tryz.func175, Tryz.ntmps175
  go_wp2_with fail
  clear c9 hq0 m0 m1 m2 m3 m4 m5 m6 m7 hl0 hW
  go_loopg [6, 7] fs.length (fun k rv iv wr => ∃ (j : Nat) (fk : FX) (fxk rs : List Int) (Dk : TD), iv = .int .i64 j ∧ j ≤ fs.length ∧ k = fs.length - j ∧ yFuns (fs.drop j) fk fxk rs = some (f1, fx1, rs1) ∧ Tx K q W D wr Dk fk fxk ∧ (∃ l, fxk = fx ++ l) ∧ wr.ownsRow W.heap.size 155 1 rv rs.length (tyC rs) ∧ ∀ b, rv.ownBlock = some b → ¬ tow q Dk b)
  case atStart => exact ⟨0, f, fx, [], D, rfl, Nat.zero_le _, rfl, H1.out, HX0.out, ⟨[], by simp⟩, World.ownsRow_nil _ _ _ _, fun b hb => by cases hb⟩
  case round =>
    obtain ⟨j, fk, fxk, rs, Dk, rfl, hj, hk, hA, hX, hpre, hrow, hnt⟩ := hrel
    have HM : Hid (gk = fs.length - j) := hk
    have HX : Hid (Tx K q W D wr Dk fk fxk) := hX
    have HRow : Hid (wr.ownsRow W.heap.size 155 1 u6 rs.length (tyC rs)) := hrow
    have HNt : Hid (∀ b, u6.ownBlock = some b → ¬ tow q Dk b) := hnt
    have HPre : Hid (∃ l, fxk = fx ++ l) := hpre
    obtain ⟨m0, m1, m2, m3, m4, m5, m6, m7⟩ := cells8 (HL.out _ _ _ _ hX)
    have hl := blk_lt (HL.out _ _ _ _ hX)
    obtain ⟨ra, rc, rfl⟩ := ownsRow_len hrow
    clear hk H1 HX0 hrow hnt hpre
    by_cases hjl : j < fs.length
    · rw [drop_consF hjl, yFuns] at hA
      obtain ⟨g1, g2, g3, hgj⟩ : ∃ g1 g2 g3, fs[j] = (g1, g2, g3) := ⟨_, _, _, rfl⟩
      have HGJ : Hid (fs[j] = (g1, g2, g3)) := hgj
      rw [hgj] at hA
      dsimp only at hA
      split at hA
      · cases hA
      rename_i hrl
      obtain ⟨⟨fa1, ta⟩, ha1, hA1⟩ := bindO hA
      obtain ⟨⟨fb1, tb⟩, hb1, hA2⟩ := bindO hA1
      obtain ⟨⟨fc1, tc⟩, hc1, hA3⟩ := bindO hA2
      obtain ⟨⟨fd1, x4⟩, hd1, hA4⟩ := bindO hA3
      obtain ⟨fe1, he1, hA5⟩ := bindO hA4
      have hx4 := yFix_pre hd1
      subst hx4
      obtain ⟨pm, rfl, hpm, rfl⟩ := yName_some he1
      have HA1 : Hid (yNew fk {} = some (fa1, ta)) := ha1
      have HB1 : Hid (yNew fa1 {} = some (fb1, tb)) := hb1
      have HC1 : Hid (yNew fb1 { k := 6, a := ta, b := tb } = some (fc1, tc)) := hc1
      have HD1 : Hid (yFix fc1 fxk g1 tc = some (fd1, fxk ++ [tc])) := hd1
      have HA5 : Hid (yFuns (fs.drop (j + 1)) { fd1 with nms := fd1.nms.set pm ta } (fxk ++ [tc]) (rs ++ [tb]) = some (f1, fx1, rs1)) := hA5
      have HS0 : Hid (Tx K q wr Dk wr Dk fk fxk) := Tx.start hX.1
      have hq := hX.1.lt
      have hrl' : rs.length ≤ 1000000000 := by omega
      clear hA hA1 hA2 hA3 hA4 hA5 ha1 hb1 hc1 hd1 he1 hX hgj hrl
      go_wp2_with fail
      refine (HS0.out.unknown HA1.out).mono ?_
      rintro r1 w1 ⟨rfl, D1, hX1⟩
      have HX1 : Hid (Tx K q wr Dk w1 D1 fa1 fxk) := hX1
      have hq1 := hX1.1.lt
      clear hX1 HS0 hq m0 m1 m2 m3 m4 m5 m6 m7 hl
      go_wp2_with fail
      refine (HX1.out.unknown HB1.out).mono ?_
      rintro r2 w2 ⟨rfl, D2, hX2⟩
      have HX2 : Hid (Tx K q wr Dk w2 D2 fb1 fxk) := hX2
      have hq2 := hX2.1.lt
      clear hX2 HX1 hq1
      go_wp2_with fail
      refine (HX2.out.function HC1.out).mono ?_
      rintro r3 w3 ⟨rfl, D3, hX3⟩
      have HX3 : Hid (Tx K q wr Dk w3 D3 fc1 fxk) := hX3
      have hX3' := HX.out.comp hX3
      obtain ⟨m0, m1, m2, m3, m4, m5, m6, m7⟩ := cells8 (HL.out _ _ _ _ hX3')
      have hl3 := blk_lt (HL.out _ _ _ _ hX3')
      obtain ⟨g, cap, hE, a0, a1, a2⟩ := funRow (HRF.out _ _ _ _ hX3') hjl
      cases hE
      rw [HGJ.out] at a0 a1 a2
      have hgl := ((HRF.out _ _ _ _ hX3').lt g rfl).2
      clear hX3 HX2 hq2 hX3'
      go_wp2_with fail
      refine (HX3.out.fix HD1.out).mono ?_
      rintro r4 w4 ⟨rfl, D4, hX4⟩
      have hX4' := HX.out.comp hX4
      clear m0 m1 m2 m3 m4 m5 m6 m7 hl3 a0 a1 a2 hgl HX3
      obtain ⟨m0, m1, m2, m3, m4, m5, m6, m7⟩ := cells8 (HL.out _ _ _ _ hX4')
      have hl4 := blk_lt (HL.out _ _ _ _ hX4')
      obtain ⟨g', cap', hE, a0, a1, a2⟩ := funRow (HRF.out _ _ _ _ hX4') hjl
      cases hE
      rw [HGJ.out] at a0 a1 a2
      have hgl := ((HRF.out _ _ _ _ hX4').lt g rfl).2
      obtain ⟨gn, capn, hNV, hgn, cg, fg, hX5⟩ := hX4.name hpm ta
      obtain ⟨⟨-, -, -, -, c8, -, -⟩, -⟩ := hX4.1.cells
      rw [hNV] at c8
      have hq4 := hX4.1.lt
      have hnl := row_le hX4.1.n
      have hpc : (pm : Int) < (fd1.nms.length : Int) := by omega
      have hjc : (j : Int) < (fs.length : Int) := by omega
      have HX5 : Hid (Tx K q wr Dk (w4.setCell ⟨gn, pm, none⟩ (.int .i32 ta)) D4 { fd1 with nms := fd1.nms.set pm ta } (fxk ++ [tc])) := hX5
      have HR5 : Hid ((w4.setCell ⟨gn, pm, none⟩ (.int .i32 ta)).ownsRow W.heap.size 155 1 (.slice ra rs.length rc) rs.length (tyC rs)) := rowKeep hX5.2.1 HRow.out HNt.out
      have HN5 : Hid (∀ b, (Value.slice ra rs.length rc).ownBlock = some b → ¬ tow q D4 b) := fun b hb ht => by
        rcases hX5.2.2 b ht with h | h
        · exact HNt.out b hb h
        · have := (HRow.out.lt b hb).2; omega
      clear hX4 hX4' hX5 hNV
      go_wp2_with fail
      refine region_tail 12 mixed (by kernel_rfl) ?_
      simp only [List.take_succ_cons, List.take_zero, List.drop_succ_cons, List.drop_zero]
      repeat still_step
      refine wpStill_nil ?_
      clear m0 m1 m2 m3 m4 m5 m6 m7 a0 a1 a2
      generalize hw5 : (w4.setCell ⟨gn, pm, none⟩ (.int .i32 ta)).drew = w5 at *
      have HX5d : Hid (Tx K q wr Dk w5 D4 { fd1 with nms := fd1.nms.set pm ta } (fxk ++ [tc])) := by rw [← hw5]; exact HX5.out.fr ((Fr.refl _ _).drew)
      have hR5 : w5.ownsRow W.heap.size 155 1 (.slice ra rs.length rc) rs.length (tyC rs) := by rw [← hw5]; exact HR5.out
      have hR6 := hR5.alloc (.cells #[.int .i32 tb] 155)
      go_wp2_with (at_builtin; refine wpList_app slTy rfl (.tmp 60) (.tmp 62) rfl W.heap.size rs.length (tyC rs) _ rfl hR6 ⟨w5.heap.size, 0, none⟩ 1 1 [.int .i32 tb] rfl rfl ?c1 ?c2 (by decide) ?b1 ?b2 ?b3 ?grow)
      case c1 => intro i v hi; exact cells_new _ (by simp) hi
      case c2 => intro v hv; simp at hv; rcases hv with rfl; rfl
      case b1 => unfold maxLen; omega
      case b2 => omega
      case b3 => have := HX.out.2.1.size; have := HX5d.out.2.1.size; simp; omega
      case grow =>
        intro v' w9 hown hgrow hv g9 cap9 hfm
        subst hfm
        have HX9 : Hid (Tx K q W D w9 D4 { fd1 with nms := fd1.nms.set pm ta } (fxk ++ [tc])) := (HX.out.comp HX5d.out).row ((Fr.refl _ _).alloc _) hgrow HB0.out (fun b hb => ⟨(HRow.out.lt b hb).1, HN5.out b hb⟩)
        have HR9 : Hid (w9.ownsRow W.heap.size 155 1 (.slice (some ⟨g9, 0, none⟩) (rs.length + 1) cap9) (rs ++ [tb]).length (tyC (rs ++ [tb]))) := by
          show World.ownsRow _ _ _ _ _ _ _
          have e : tyC (rs ++ [tb]) = tyC rs ++ [.int .i32 tb] := by simp [tyC]
          rw [e, List.length_append]
          exact hown
        have HN9 : Hid (∀ b, (Value.slice (some ⟨g9, 0, none⟩) (rs.length + 1) cap9).ownBlock = some b → ¬ tow q D4 b) := fun b hb => by
          rcases hv with h | h
          · exact HN5.out b (h ▸ hb)
          · rw [h] at hb; injection hb with hb; intro ht; have := (HX5d.out.1.own_lt b ht).2; omega
        have HPre9 : Hid (∃ l, fxk ++ [tc] = fx ++ l) := by obtain ⟨l, hl⟩ := HPre.out; exact ⟨l ++ [tc], by rw [hl, List.append_assoc]⟩
        clear hown hgrow hv hR5 hR6
        go_wp2_with fail
        go_roundg (fs.length - (j + 1))
        case measure => rw [HM.out]; omega
        case rel => exact ⟨j + 1, _, _, _, _, by go_num, by omega, rfl, HA5.out, HX9.out, HPre9.out, HR9.out, HN9.out⟩
    · obtain rfl : j = fs.length := by omega
      rw [List.drop_length, yFuns] at hA
      injection hA with hA
      injection hA with k1 k2
      injection k2 with k2 k3
      subst k1 k2 k3
      clear hX
      go_wp2_with fail
      clear m0 m1 m2 m3 m4 m5 m6 m7 hl
      go_loopg [11] fs.length (fun k iv wr => ∃ (j : Nat) (fk2 : FX) (Dk : TD), iv = .int .i64 j ∧ j ≤ fs.length ∧ k = fs.length - j ∧ yBodies n R (fs.drop j) (rs.drop j) fk2 fxk = some f2 ∧ Tx K q W D wr Dk fk2 fxk ∧ wr.ownsRow W.heap.size 155 1 (.slice ra rs.length rc) rs.length (tyC rs) ∧ ∀ b, (Value.slice ra rs.length rc).ownBlock = some b → ¬ tow q Dk b)
      case atStart => exact ⟨0, fk, Dk, rfl, Nat.zero_le _, rfl, H2.out, HX.out, HRow.out, HNt.out⟩
      case round =>
        obtain ⟨j, fk2, Dk2, rfl, hj2, hk, hA, hX, hrow, hnt⟩ := hrel
        have HM2 : Hid (gk = fs.length - j) := hk
        clear hk H2 HX HRow HNt
        have HX : Hid (Tx K q W D wr Dk2 fk2 fxk) := hX
        have HRow : Hid (wr.ownsRow W.heap.size 155 1 (.slice ra rs.length rc) rs.length (tyC rs)) := hrow
        have HNt : Hid (∀ b, (Value.slice ra rs.length rc).ownBlock = some b → ¬ tow q Dk2 b) := hnt
        obtain ⟨m0, m1, m2, m3, m4, m5, m6, m7⟩ := cells8 (HL.out _ _ _ _ hX)
        have hl := blk_lt (HL.out _ _ _ _ hX)
        clear hnt
        by_cases hjl : j < fs.length
        · rw [drop_consF hjl] at hA
          have hjr : j < rs.length := by
            rcases Nat.lt_or_ge j rs.length with h | h
            · exact h
            · rw [List.drop_eq_nil_of_le h, yBodies] at hA; cases hA
          rw [drop_cons hjr, yBodies] at hA
          obtain ⟨g1, g2, g3, hgj⟩ : ∃ g1 g2 g3, fs[j] = (g1, g2, g3) := ⟨_, _, _, rfl⟩
          have HGJ : Hid (fs[j] = (g1, g2, g3)) := hgj
          rw [hgj] at hA
          dsimp only at hA
          obtain ⟨f5, hw, hA1⟩ := bindO hA
          obtain ⟨rg, rcap, hRe, cj, hrg⟩ := tyAt hrow hjr
          cases hRe
          obtain ⟨u, hu⟩ : ∃ u, rs.getD j 0 = u := ⟨_, rfl⟩
          rw [hu] at cj hw
          have HWt : Hid (yWant n R fk2 fxk g3 u = some f5) := hw
          have HA1 : Hid (yBodies n R (fs.drop (j + 1)) (rs.drop (j + 1)) f5 fxk = some f2) := hA1
          obtain ⟨g, cap, hE, a0, a1, a2⟩ := funRow (HRF.out _ _ _ _ hX) hjl
          cases hE
          rw [hgj] at a0 a1 a2
          have hgl := ((HRF.out _ _ _ _ hX).lt g rfl).2
          have HS0 : Hid (Tx K q wr Dk2 wr Dk2 fk2 fxk) := Tx.start hX.1
          have hjc : (j : Int) < (fs.length : Int) := by omega
          have hjrc : (j : Int) < (rs.length : Int) := by omega
          clear hA hA1 hw hX hgj hrow hu
          go_wp2_with fail
          refine region_tail 11 mixed (by kernel_rfl) ?_
          simp only [List.take_succ_cons, List.take_zero, List.drop_succ_cons, List.drop_zero]
          repeat still_step
          refine wpStill_nil ?_
          go_wp2_with fail
          refine ((HS0.out.fr (by repeat (first | with_reducible exact Fr.refl _ _ | (with_reducible refine Fr.drew ?_) | (with_reducible refine Fr.drewN ?_ _) | (with_reducible refine Fr.alloc ?_ _) | ((with_reducible refine Fr.setCell ?_ ?_ _); rotate_left; first | exact .inl rfl | exact .inr (Nat.le_refl _) | exact .inl (Nat.le_refl _) | (focus (left; simp; done)) | (focus (left; simp; omega)) | (focus (left; omega)) | (focus (right; simp; done)) | (focus (right; simp; omega)) | (focus (right; omega))) | exact Fr.refl _ _))).want ih HWt.out).mono ?_
          rintro r5 w5 ⟨rfl, D5, hX5⟩
          have HX5 : Hid (Tx K q W D w5 D5 f5 fxk) := HX.out.comp hX5
          have HR5 : Hid (w5.ownsRow W.heap.size 155 1 (.slice (some ⟨rg, 0, none⟩) rs.length rc) rs.length (tyC rs)) := rowKeep hX5.2.1 HRow.out HNt.out
          have HN5 : Hid (∀ b, (Value.slice (some ⟨rg, 0, none⟩) rs.length rc).ownBlock = some b → ¬ tow q D5 b) := fun b hb ht => by
            rcases hX5.2.2 b ht with h | h
            · exact HNt.out b hb h
            · have := (HRow.out.lt b hb).2; omega
          clear hX5 m0 m1 m2 m3 m4 m5 m6 m7 hl a0 a1 a2 cj hrg hgl
          go_wp2_with fail
          go_roundg (fs.length - (j + 1))
          case measure => rw [HM2.out]; omega
          case rel => exact ⟨j + 1, _, _, by go_num, by omega, rfl, HA1.out, HX5.out, HR5.out, HN5.out⟩
        · obtain rfl : j = fs.length := by omega
          rw [List.drop_length, yBodies] at hA
          injection hA with hA
          subst hA
          obtain ⟨lp, hlp⟩ := HPre.out
          subst hlp
          obtain ⟨⟨-, -, -, -, -, c9, -⟩, hfz⟩ := hX.1.cells
          have f9 := hfz 9
          have hq6 := hX.1.lt
          obtain ⟨va6, vc6, hFV⟩ := ownsRow_len hX.1.x
          have hcap := hX.1.x
          rw [hFV] at hcap
          have hcap := ownsRow_cap hcap
          rw [hFV] at c9
          have HX6 : Hid (Tx K q W D (wr.setCell ⟨q, 9, none⟩ (.slice va6 fx.length vc6)) { Dk2 with FV := .slice va6 fx.length vc6 } fk2 fx) := hX.back hFV
          have hll : fx.length + lp.length ≤ 9223372036854775807 := by have := row_le hX.1.x; simpa using this
          rw [List.length_append] at hcap
          rw [List.length_append] at c9
          have hle : fx.length ≤ vc6 := by omega
          clear hX hFV hfz hrow HRow HNt
          go_wp2_with fail
          clear m0 m1 m2 m3 m4 m5 m6 m7 hl c9 f9 hq6
          go_loopg [12] fs.length (fun k iv wr => ∃ (j : Nat) (fk3 : FX) (Dk : TD), iv = .int .i64 j ∧ j ≤ fs.length ∧ k = fs.length - j ∧ yOpens n fx (fs.drop j) fk3 = some f3 ∧ Tx K q W D wr Dk fk3 fx)
          case atStart => exact ⟨0, fk2, _, rfl, Nat.zero_le _, rfl, H3.out, HX6.out⟩
          case round =>
            obtain ⟨j, fk3, Dk3, rfl, hj3, hk, hA, hX⟩ := hrel
            have HM3 : Hid (gk = fs.length - j) := hk
            have HX3 : Hid (Tx K q W D wr Dk3 fk3 fx) := hX
            obtain ⟨m0, m1, m2, m3, m4, m5, m6, m7⟩ := cells8 (HL.out _ _ _ _ hX)
            have hl := blk_lt (HL.out _ _ _ _ hX)
            clear hk H3 HX6 HX
            by_cases hjl : j < fs.length
            · rw [drop_consF hjl, yOpens] at hA
              obtain ⟨g1, g2, g3, hgj⟩ : ∃ g1 g2 g3, fs[j] = (g1, g2, g3) := ⟨_, _, _, rfl⟩
              rw [hgj] at hA
              dsimp only at hA
              obtain ⟨f5, ho, hA1⟩ := bindO hA
              have HO : Hid (yOpen n fk3 fx g1 = some f5) := ho
              have HA1 : Hid (yOpens n fx (fs.drop (j + 1)) f5 = some f3) := hA1
              obtain ⟨g, cap, hE, a0, a1, a2⟩ := funRow (HRF.out _ _ _ _ hX) hjl
              cases hE
              rw [hgj] at a0 a1 a2
              have hgl := ((HRF.out _ _ _ _ hX).lt g rfl).2
              clear hA hA1 ho hX hgj
              go_wp2_with fail
              refine (HX3.out.open HO.out).mono ?_
              rintro r5 w5 ⟨rfl, D5, hX5⟩
              have HX5 : Hid (Tx K q W D w5 D5 f5 fx) := hX5
              clear hX5 m0 m1 m2 m3 m4 m5 m6 m7 hl a0 a1 a2 hgl
              go_wp2_with fail
              go_roundg (fs.length - (j + 1))
              case measure => rw [HM3.out]; omega
              case rel => exact ⟨j + 1, _, _, by go_num, by omega, rfl, HA1.out, HX5.out⟩
            · obtain rfl : j = fs.length := by omega
              rw [List.drop_length, yOpens] at hA
              injection hA with hA
              subst hA
              clear hX
              go_wp2_with fail
              refine (HX3.out.exp ih H4.out).mono ?_
              rintro r5 w5 ⟨rfl, D5, hX5⟩
              have HX5 : Hid (Tx K q W D w5 D5 x.1 fx) := hX5
              clear hX5
              go_wp2_with fail
              go_ret
              exact ⟨rfl, ((HT.out.fr HFW.out).go HX5.out.n).imp fun _ h => h.1⟩
end
end Go.Proofs.YtklimomeendajaaGreatDoor

/- form (made by tools/mk_exp2.py). -/
namespace Go.Proofs.YtklimomeendajaaGreatDoor
open Go.RowKit

section
variable {K : TC} {q : Nat} {w : World} {f f' : FX} {fx : List Int} {D : TD} {t : Int} {nu bi e1 e2 e3 : Int} {fa aa : Option Addr} {fl fc al ac : Nat}

set_option maxHeartbeats 1000000 in
set_option maxRecDepth 100000 in
theorem form_let (HC : ∀ W, Fr (fun _ => False) w W → Calls Tryz.prog 174 #[.pointer (some ⟨q, 0, none⟩), .agg #[.int .i64 10, .int .i64 nu, .int .i64 bi, .int .i64 e1, .int .i64 e2, .int .i64 e3, .slice fa fl fc, .slice aa al ac]] W (TR K q w D (.int .i32 t) f' fx)) (W : World) (hF : Fr (fun _ => False) w W) :
    Calls Tryz.prog 120 #[.pointer (some ⟨q, 0, none⟩), .agg #[.int .i64 10, .int .i64 nu, .int .i64 bi, .int .i64 e1, .int .i64 e2, .int .i64 e3, .slice fa fl fc, .slice aa al ac]] W (TR K q w D (.int .i32 t) f' fx) := by
  have H : Hid (∀ W, Fr (fun _ => False) w W → Calls Tryz.prog 174 #[.pointer (some ⟨q, 0, none⟩), .agg #[.int .i64 10, .int .i64 nu, .int .i64 bi, .int .i64 e1, .int .i64 e2, .int .i64 e3, .slice fa fl fc, .slice aa al ac]] W (TR K q w D (.int .i32 t) f' fx)) := HC
  have HF : Hid (Fr (fun _ => False) w W) := hF
  clear HC hF
  go_enter Tryz.func120, Tryz.ntmps120
  go_wp2_with fail
  refine (H.out _ (HF.out.alloc _)).mono ?_
  rintro r1 w1 ⟨rfl, D1, hX1⟩
  have HX1 : Hid (Tx K q w D w1 D1 f' fx) := hX1
  clear hX1
  go_wp2_with fail
  go_ret
  exact ⟨rfl, D1, HX1.out⟩

set_option maxHeartbeats 1000000 in
set_option maxRecDepth 100000 in
theorem form_letRec (HC : ∀ W, Fr (fun _ => False) w W → Calls Tryz.prog 175 #[.pointer (some ⟨q, 0, none⟩), .agg #[.int .i64 11, .int .i64 nu, .int .i64 bi, .int .i64 e1, .int .i64 e2, .int .i64 e3, .slice fa fl fc, .slice aa al ac]] W (TR K q w D (.int .i32 t) f' fx)) (W : World) (hF : Fr (fun _ => False) w W) :
    Calls Tryz.prog 120 #[.pointer (some ⟨q, 0, none⟩), .agg #[.int .i64 11, .int .i64 nu, .int .i64 bi, .int .i64 e1, .int .i64 e2, .int .i64 e3, .slice fa fl fc, .slice aa al ac]] W (TR K q w D (.int .i32 t) f' fx) := by
  have H : Hid (∀ W, Fr (fun _ => False) w W → Calls Tryz.prog 175 #[.pointer (some ⟨q, 0, none⟩), .agg #[.int .i64 11, .int .i64 nu, .int .i64 bi, .int .i64 e1, .int .i64 e2, .int .i64 e3, .slice fa fl fc, .slice aa al ac]] W (TR K q w D (.int .i32 t) f' fx)) := HC
  have HF : Hid (Fr (fun _ => False) w W) := hF
  clear HC hF
  go_enter Tryz.func120, Tryz.ntmps120
  go_wp2_with fail
  refine (H.out _ (HF.out.alloc _)).mono ?_
  rintro r1 w1 ⟨rfl, D1, hX1⟩
  have HX1 : Hid (Tx K q w D w1 D1 f' fx) := hX1
  clear hX1
  go_wp2_with fail
  go_ret
  exact ⟨rfl, D1, HX1.out⟩

set_option maxHeartbeats 1000000 in
set_option maxRecDepth 100000 in
theorem form_fn (HC : ∀ W, Fr (fun _ => False) w W → Calls Tryz.prog 176 #[.pointer (some ⟨q, 0, none⟩), .agg #[.int .i64 12, .int .i64 nu, .int .i64 bi, .int .i64 e1, .int .i64 e2, .int .i64 e3, .slice fa fl fc, .slice aa al ac]] W (TR K q w D (.int .i32 t) f' fx)) (W : World) (hF : Fr (fun _ => False) w W) :
    Calls Tryz.prog 120 #[.pointer (some ⟨q, 0, none⟩), .agg #[.int .i64 12, .int .i64 nu, .int .i64 bi, .int .i64 e1, .int .i64 e2, .int .i64 e3, .slice fa fl fc, .slice aa al ac]] W (TR K q w D (.int .i32 t) f' fx) := by
  have H : Hid (∀ W, Fr (fun _ => False) w W → Calls Tryz.prog 176 #[.pointer (some ⟨q, 0, none⟩), .agg #[.int .i64 12, .int .i64 nu, .int .i64 bi, .int .i64 e1, .int .i64 e2, .int .i64 e3, .slice fa fl fc, .slice aa al ac]] W (TR K q w D (.int .i32 t) f' fx)) := HC
  have HF : Hid (Fr (fun _ => False) w W) := hF
  clear HC hF
  go_enter Tryz.func120, Tryz.ntmps120
  go_wp2_with fail
  refine (H.out _ (HF.out.alloc _)).mono ?_
  rintro r1 w1 ⟨rfl, D1, hX1⟩
  have HX1 : Hid (Tx K q w D w1 D1 f' fx) := hX1
  clear hX1
  go_wp2_with fail
  go_ret
  exact ⟨rfl, D1, HX1.out⟩

set_option maxHeartbeats 1000000 in
set_option maxRecDepth 100000 in
theorem form_choice (HC : ∀ W, Fr (fun _ => False) w W → Calls Tryz.prog 177 #[.pointer (some ⟨q, 0, none⟩), .agg #[.int .i64 13, .int .i64 nu, .int .i64 bi, .int .i64 e1, .int .i64 e2, .int .i64 e3, .slice fa fl fc, .slice aa al ac]] W (TR K q w D (.int .i32 t) f' fx)) (W : World) (hF : Fr (fun _ => False) w W) :
    Calls Tryz.prog 120 #[.pointer (some ⟨q, 0, none⟩), .agg #[.int .i64 13, .int .i64 nu, .int .i64 bi, .int .i64 e1, .int .i64 e2, .int .i64 e3, .slice fa fl fc, .slice aa al ac]] W (TR K q w D (.int .i32 t) f' fx) := by
  have H : Hid (∀ W, Fr (fun _ => False) w W → Calls Tryz.prog 177 #[.pointer (some ⟨q, 0, none⟩), .agg #[.int .i64 13, .int .i64 nu, .int .i64 bi, .int .i64 e1, .int .i64 e2, .int .i64 e3, .slice fa fl fc, .slice aa al ac]] W (TR K q w D (.int .i32 t) f' fx)) := HC
  have HF : Hid (Fr (fun _ => False) w W) := hF
  clear HC hF
  go_enter Tryz.func120, Tryz.ntmps120
  go_wp2_with fail
  refine (H.out _ (HF.out.alloc _)).mono ?_
  rintro r1 w1 ⟨rfl, D1, hX1⟩
  have HX1 : Hid (Tx K q w D w1 D1 f' fx) := hX1
  clear hX1
  go_wp2_with fail
  go_ret
  exact ⟨rfl, D1, HX1.out⟩

set_option maxHeartbeats 1000000 in
set_option maxRecDepth 100000 in
theorem form_match (HC : ∀ W, Fr (fun _ => False) w W → Calls Tryz.prog 178 #[.pointer (some ⟨q, 0, none⟩), .agg #[.int .i64 14, .int .i64 nu, .int .i64 bi, .int .i64 e1, .int .i64 e2, .int .i64 e3, .slice fa fl fc, .slice aa al ac]] W (TR K q w D (.int .i32 t) f' fx)) (W : World) (hF : Fr (fun _ => False) w W) :
    Calls Tryz.prog 120 #[.pointer (some ⟨q, 0, none⟩), .agg #[.int .i64 14, .int .i64 nu, .int .i64 bi, .int .i64 e1, .int .i64 e2, .int .i64 e3, .slice fa fl fc, .slice aa al ac]] W (TR K q w D (.int .i32 t) f' fx) := by
  have H : Hid (∀ W, Fr (fun _ => False) w W → Calls Tryz.prog 178 #[.pointer (some ⟨q, 0, none⟩), .agg #[.int .i64 14, .int .i64 nu, .int .i64 bi, .int .i64 e1, .int .i64 e2, .int .i64 e3, .slice fa fl fc, .slice aa al ac]] W (TR K q w D (.int .i32 t) f' fx)) := HC
  have HF : Hid (Fr (fun _ => False) w W) := hF
  clear HC hF
  go_enter Tryz.func120, Tryz.ntmps120
  go_wp2_with fail
  refine (H.out _ (HF.out.alloc _)).mono ?_
  rintro r1 w1 ⟨rfl, D1, hX1⟩
  have HX1 : Hid (Tx K q w D w1 D1 f' fx) := hX1
  clear hX1
  go_wp2_with fail
  go_ret
  exact ⟨rfl, D1, HX1.out⟩

set_option maxHeartbeats 1000000 in
set_option maxRecDepth 100000 in
theorem form_try (HC : ∀ W, Fr (fun _ => False) w W → Calls Tryz.prog 179 #[.pointer (some ⟨q, 0, none⟩), .agg #[.int .i64 15, .int .i64 nu, .int .i64 bi, .int .i64 e1, .int .i64 e2, .int .i64 e3, .slice fa fl fc, .slice aa al ac]] W (TR K q w D (.int .i32 t) f' fx)) (W : World) (hF : Fr (fun _ => False) w W) :
    Calls Tryz.prog 120 #[.pointer (some ⟨q, 0, none⟩), .agg #[.int .i64 15, .int .i64 nu, .int .i64 bi, .int .i64 e1, .int .i64 e2, .int .i64 e3, .slice fa fl fc, .slice aa al ac]] W (TR K q w D (.int .i32 t) f' fx) := by
  have H : Hid (∀ W, Fr (fun _ => False) w W → Calls Tryz.prog 179 #[.pointer (some ⟨q, 0, none⟩), .agg #[.int .i64 15, .int .i64 nu, .int .i64 bi, .int .i64 e1, .int .i64 e2, .int .i64 e3, .slice fa fl fc, .slice aa al ac]] W (TR K q w D (.int .i32 t) f' fx)) := HC
  have HF : Hid (Fr (fun _ => False) w W) := hF
  clear HC hF
  go_enter Tryz.func120, Tryz.ntmps120
  go_wp2_with fail
  refine (H.out _ (HF.out.alloc _)).mono ?_
  rintro r1 w1 ⟨rfl, D1, hX1⟩
  have HX1 : Hid (Tx K q w D w1 D1 f' fx) := hX1
  clear hX1
  go_wp2_with fail
  go_ret
  exact ⟨rfl, D1, HX1.out⟩

set_option maxHeartbeats 1000000 in
set_option maxRecDepth 100000 in
theorem form_callcc (HC : ∀ W, Fr (fun _ => False) w W → Calls Tryz.prog 180 #[.pointer (some ⟨q, 0, none⟩), .agg #[.int .i64 23, .int .i64 nu, .int .i64 bi, .int .i64 e1, .int .i64 e2, .int .i64 e3, .slice fa fl fc, .slice aa al ac]] W (TR K q w D (.int .i32 t) f' fx)) (W : World) (hF : Fr (fun _ => False) w W) :
    Calls Tryz.prog 120 #[.pointer (some ⟨q, 0, none⟩), .agg #[.int .i64 23, .int .i64 nu, .int .i64 bi, .int .i64 e1, .int .i64 e2, .int .i64 e3, .slice fa fl fc, .slice aa al ac]] W (TR K q w D (.int .i32 t) f' fx) := by
  have H : Hid (∀ W, Fr (fun _ => False) w W → Calls Tryz.prog 180 #[.pointer (some ⟨q, 0, none⟩), .agg #[.int .i64 23, .int .i64 nu, .int .i64 bi, .int .i64 e1, .int .i64 e2, .int .i64 e3, .slice fa fl fc, .slice aa al ac]] W (TR K q w D (.int .i32 t) f' fx)) := HC
  have HF : Hid (Fr (fun _ => False) w W) := hF
  clear HC hF
  go_enter Tryz.func120, Tryz.ntmps120
  go_wp2_with fail
  refine (H.out _ (HF.out.alloc _)).mono ?_
  rintro r1 w1 ⟨rfl, D1, hX1⟩
  have HX1 : Hid (Tx K q w D w1 D1 f' fx) := hX1
  clear hX1
  go_wp2_with fail
  go_ret
  exact ⟨rfl, D1, HX1.out⟩

set_option maxHeartbeats 1000000 in
set_option maxRecDepth 100000 in
theorem form_throw (HC : ∀ W, Fr (fun _ => False) w W → Calls Tryz.prog 181 #[.pointer (some ⟨q, 0, none⟩), .agg #[.int .i64 25, .int .i64 nu, .int .i64 bi, .int .i64 e1, .int .i64 e2, .int .i64 e3, .slice fa fl fc, .slice aa al ac]] W (TR K q w D (.int .i32 t) f' fx)) (W : World) (hF : Fr (fun _ => False) w W) :
    Calls Tryz.prog 120 #[.pointer (some ⟨q, 0, none⟩), .agg #[.int .i64 25, .int .i64 nu, .int .i64 bi, .int .i64 e1, .int .i64 e2, .int .i64 e3, .slice fa fl fc, .slice aa al ac]] W (TR K q w D (.int .i32 t) f' fx) := by
  have H : Hid (∀ W, Fr (fun _ => False) w W → Calls Tryz.prog 181 #[.pointer (some ⟨q, 0, none⟩), .agg #[.int .i64 25, .int .i64 nu, .int .i64 bi, .int .i64 e1, .int .i64 e2, .int .i64 e3, .slice fa fl fc, .slice aa al ac]] W (TR K q w D (.int .i32 t) f' fx)) := HC
  have HF : Hid (Fr (fun _ => False) w W) := hF
  clear HC hF
  go_enter Tryz.func120, Tryz.ntmps120
  go_wp2_with fail
  refine (H.out _ (HF.out.alloc _)).mono ?_
  rintro r1 w1 ⟨rfl, D1, hX1⟩
  have HX1 : Hid (Tx K q w D w1 D1 f' fx) := hX1
  clear hX1
  go_wp2_with fail
  go_ret
  exact ⟨rfl, D1, HX1.out⟩

set_option maxHeartbeats 1000000 in
set_option maxRecDepth 100000 in
theorem form_call {kk : Int} (n10 : ¬ kk = 10) (n11 : ¬ kk = 11) (n12 : ¬ kk = 12) (n13 : ¬ kk = 13) (n14 : ¬ kk = 14) (n15 : ¬ kk = 15) (n23 : ¬ kk = 23) (n25 : ¬ kk = 25) (HC : ∀ W, Fr (fun _ => False) w W → Calls Tryz.prog 182 #[.pointer (some ⟨q, 0, none⟩), .agg #[.int .i64 kk, .int .i64 nu, .int .i64 bi, .int .i64 e1, .int .i64 e2, .int .i64 e3, .slice fa fl fc, .slice aa al ac]] W (TR K q w D (.int .i32 t) f' fx)) (W : World) (hF : Fr (fun _ => False) w W) :
    Calls Tryz.prog 120 #[.pointer (some ⟨q, 0, none⟩), .agg #[.int .i64 kk, .int .i64 nu, .int .i64 bi, .int .i64 e1, .int .i64 e2, .int .i64 e3, .slice fa fl fc, .slice aa al ac]] W (TR K q w D (.int .i32 t) f' fx) := by
  have H : Hid (∀ W, Fr (fun _ => False) w W → Calls Tryz.prog 182 #[.pointer (some ⟨q, 0, none⟩), .agg #[.int .i64 kk, .int .i64 nu, .int .i64 bi, .int .i64 e1, .int .i64 e2, .int .i64 e3, .slice fa fl fc, .slice aa al ac]] W (TR K q w D (.int .i32 t) f' fx)) := HC
  have HF : Hid (Fr (fun _ => False) w W) := hF
  clear HC hF
  go_enter Tryz.func120, Tryz.ntmps120
  go_wp2_with fail
  refine (H.out _ (HF.out.alloc _)).mono ?_
  rintro r1 w1 ⟨rfl, D1, hX1⟩
  have HX1 : Hid (Tx K q w D w1 D1 f' fx) := hX1
  clear hX1
  go_wp2_with fail
  go_ret
  exact ⟨rfl, D1, HX1.out⟩

end
end Go.Proofs.YtklimomeendajaaGreatDoor
