import Derived.Deep.LoopGhost
import Derived.Test.YtnbhnjokpcdnnaaDoorMA3
import Derived.Test.YtnbhnjokpcdnnaaDoorMA4
set_option linter.unusedVariables false
set_option linter.unusedSimpArgs false
namespace Go.Proofs.YtnbhnjokpcdnnaaDoor
open Go.RowKit
attribute [local go_sem] fieldWord0 fieldWord1

set_option maxHeartbeats 1600000 in
set_option maxRecDepth 100000 in
theorem w_sum (ws : List (Int × Int)) (R : Nat → RS → Option (RS × Int)) (ih : Ih ws R) (n : Nat) (s : RS) (x : RS × Int) (h : tSum ws R n s = some x) : Ct ws 54 s x := by
  intro r L E P B cE w hR
  have hC0 := Cx.start hR
  clear hR
  unfold tSum at h
  obtain ⟨u, hu, h⟩ := Option.bind_eq_some_iff.1 h
  have H : Hid (tSumL ws R n u.1 u.2 = some x) := h
  clear h
  go_enter Tryd.func54, Tryd.ntmps54
  go_wp2_with fail
  refine (hC0.call (ih 10 _ _ hu)).mono ?_
  rintro e w1 ⟨rfl, -, E1, P1, B1, c1, hC1, -⟩
  clear hC0
  go_wp2_with fail
  refine (hC1.peek).mono ?_
  rintro e w2 ⟨rfl, -, hC2⟩
  clear hC1
  go_wp2_with fail
  refine (addition_any _ _).mono ?_
  rintro e w' ⟨rfl, rfl⟩
  go_wp2_with fail
  go_loopg [3, 4] n (fun k l kd wr => ∃ (sk : RS) (lv : Int) (Ek Pk Bk : Value) (ck : List Value), tSumL ws R k sk lv = some x ∧ l = .int .i64 lv ∧ kd = .int .i64 (addK (rPeek ws sk).1) ∧ Cx r L ws w E P B cE wr Ek Pk Bk ck sk)
  case atStart => exact ⟨u.1, u.2, _, _, _, _, H.out, rfl, rfl, hC2⟩
  case round =>
    obtain ⟨sk, lv, Ek, Pk, Bk, ck, hk, rfl, rfl, hC0⟩ := hrel
    clear hC2 H hu
    cases gk with
    | zero => simp [tSumL] at hk
    | succ k =>
      unfold tSumL at hk
      split at hk
      · rename_i ha
        have Hx : Hid (x = (sk, lv)) := by show x = (sk, lv); simpa using hk.symm
        clear hk
        go_wp2_with fail
        go_ret
        rw [Hx.out]
        exact ⟨rfl, hC0.nx⟩
      · rename_i ha
        obtain ⟨y, hy, hk⟩ := Option.bind_eq_some_iff.1 hk
        obtain ⟨z, hz, hk⟩ := Option.bind_eq_some_iff.1 hk
        have H : Hid (tSumL ws R k z.1 z.2 = some x) := hk
        clear hk
        go_wp2_with fail
        refine (hC0.step).mono ?_
        rintro e w3 ⟨rfl, -, E3, P3, B3, c3, hC3, -⟩
        clear hC0
        go_wp2_with fail
        refine (hC3.call (ih 10 _ _ hy)).mono ?_
        rintro e w4 ⟨rfl, -, E4, P4, B4, c4, hC4, -⟩
        clear hC3
        go_wp2_with fail
        refine (hC4.add hz).mono ?_
        rintro e w5 ⟨rfl, -, E5, P5, B5, c5, hC5, -⟩
        clear hC4
        go_wp2_with fail
        refine (hC5.peek).mono ?_
        rintro e w6 ⟨rfl, -, hC6⟩
        clear hC5
        go_wp2_with fail
        refine (addition_any _ _).mono ?_
        rintro e w' ⟨rfl, rfl⟩
        go_wp2_with fail
        go_roundg k
        case measure => omega
        case rel => exact ⟨z.1, z.2, _, _, _, _, H.out, rfl, rfl, hC6⟩

set_option maxHeartbeats 1600000 in
set_option maxRecDepth 100000 in
theorem w_prod (ws : List (Int × Int)) (R : Nat → RS → Option (RS × Int)) (ih : Ih ws R) (n : Nat) (s : RS) (x : RS × Int) (h : tProd ws R n s = some x) : Ct ws 57 s x := by
  intro r L E P B cE w hR
  have hC0 := Cx.start hR
  clear hR
  unfold tProd at h
  obtain ⟨u, hu, h⟩ := Option.bind_eq_some_iff.1 h
  have H : Hid (tProdL ws R n u.1 u.2 = some x) := h
  clear h
  go_enter Tryd.func57, Tryd.ntmps57
  go_wp2_with fail
  refine (hC0.call (ih 11 _ _ hu)).mono ?_
  rintro e w1 ⟨rfl, -, E1, P1, B1, c1, hC1, -⟩
  clear hC0
  go_wp2_with fail
  refine (hC1.peek).mono ?_
  rintro e w2 ⟨rfl, -, hC2⟩
  clear hC1
  go_wp2_with fail
  refine (multiplication_any _ _).mono ?_
  rintro e w' ⟨rfl, rfl⟩
  go_wp2_with fail
  go_loopg [3, 4] n (fun k l kd wr => ∃ (sk : RS) (lv : Int) (Ek Pk Bk : Value) (ck : List Value), tProdL ws R k sk lv = some x ∧ l = .int .i64 lv ∧ kd = .int .i64 (mulK (rPeek ws sk).1) ∧ Cx r L ws w E P B cE wr Ek Pk Bk ck sk)
  case atStart => exact ⟨u.1, u.2, _, _, _, _, H.out, rfl, rfl, hC2⟩
  case round =>
    obtain ⟨sk, lv, Ek, Pk, Bk, ck, hk, rfl, rfl, hC0⟩ := hrel
    clear hC2 H hu
    cases gk with
    | zero => simp [tProdL] at hk
    | succ k =>
      unfold tProdL at hk
      split at hk
      · rename_i ha
        have Hx : Hid (x = (sk, lv)) := by show x = (sk, lv); simpa using hk.symm
        clear hk
        go_wp2_with fail
        go_ret
        rw [Hx.out]
        exact ⟨rfl, hC0.nx⟩
      · rename_i ha
        obtain ⟨y, hy, hk⟩ := Option.bind_eq_some_iff.1 hk
        obtain ⟨z, hz, hk⟩ := Option.bind_eq_some_iff.1 hk
        have H : Hid (tProdL ws R k z.1 z.2 = some x) := hk
        clear hk
        go_wp2_with fail
        refine (hC0.step).mono ?_
        rintro e w3 ⟨rfl, -, E3, P3, B3, c3, hC3, -⟩
        clear hC0
        go_wp2_with fail
        refine (hC3.call (ih 11 _ _ hy)).mono ?_
        rintro e w4 ⟨rfl, -, E4, P4, B4, c4, hC4, -⟩
        clear hC3
        go_wp2_with fail
        refine (hC4.add hz).mono ?_
        rintro e w5 ⟨rfl, -, E5, P5, B5, c5, hC5, -⟩
        clear hC4
        go_wp2_with fail
        refine (hC5.peek).mono ?_
        rintro e w6 ⟨rfl, -, hC6⟩
        clear hC5
        go_wp2_with fail
        refine (multiplication_any _ _).mono ?_
        rintro e w' ⟨rfl, rfl⟩
        go_wp2_with fail
        go_roundg k
        case measure => omega
        case rel => exact ⟨z.1, z.2, _, _, _, _, H.out, rfl, rfl, hC6⟩


set_option maxHeartbeats 1600000 in
set_option maxRecDepth 100000 in
theorem w_call (ws : List (Int × Int)) (R : Nat → RS → Option (RS × Int)) (ih : Ih ws R) (n : Nat) (s : RS) (x : RS × Int) (h : tCall ws R n s = some x) : Ct ws 66 s x := by
  intro r L E P B cE w hR
  have hC0 := Cx.start hR
  clear hR
  unfold tCall at h
  obtain ⟨u, hu, h⟩ := Option.bind_eq_some_iff.1 h
  have H : Hid (tCallL ws R n u.1 u.2 = some x) := h
  clear h
  go_enter Tryd.func66, Tryd.ntmps66
  go_wp2_with fail
  refine (hC0.call (ih 14 _ _ hu)).mono ?_
  rintro e w1 ⟨rfl, -, E1, P1, B1, c1, hC1, -⟩
  clear hC0
  go_wp2_with fail
  go_loopg [3] n (fun k l wr => ∃ (sk : RS) (lv : Int) (Ek Pk Bk : Value) (ck : List Value), tCallL ws R k sk lv = some x ∧ l = .int .i64 lv ∧ Cx r L ws w E P B cE wr Ek Pk Bk ck sk)
  case atStart => exact ⟨u.1, u.2, _, _, _, _, H.out, rfl, hC1⟩
  case round =>
    obtain ⟨sk, lv, Ek, Pk, Bk, ck, hk, rfl, hC0⟩ := hrel
    clear hC1 H hu
    cases gk with
    | zero => simp [tCallL] at hk
    | succ k =>
      unfold tCallL at hk
      split at hk
      · rename_i ha
        obtain ⟨y, hy, hk⟩ := Option.bind_eq_some_iff.1 hk
        obtain ⟨z, hz, hk⟩ := Option.bind_eq_some_iff.1 hk
        have H : Hid (tCallL ws R k z.1 z.2 = some x) := hk
        clear hk
        go_wp2_with fail
        refine (hC0.peek).mono ?_
        rintro e w2 ⟨rfl, -, hC2⟩
        clear hC0
        go_wp2_with fail
        refine (beginsAtom_any _ _).mono ?_
        rintro e w' ⟨rfl, rfl⟩
        go_wp2_with fail
        refine (hC2.call (ih 14 _ _ hy)).mono ?_
        rintro e w4 ⟨rfl, -, E4, P4, B4, c4, hC4, -⟩
        clear hC2
        go_wp2_with fail
        refine (hC4.add hz).mono ?_
        rintro e w5 ⟨rfl, -, E5, P5, B5, c5, hC5, -⟩
        clear hC4
        go_wp2_with fail
        go_roundg k
        case measure => omega
        case rel => exact ⟨z.1, z.2, _, _, _, _, H.out, rfl, hC5⟩
      · rename_i ha
        simp only [Bool.not_eq_true] at ha
        have Hx : Hid (x = (sk, lv)) := by show x = (sk, lv); simpa using hk.symm
        clear hk
        go_wp2_with fail
        refine (hC0.peek).mono ?_
        rintro e w2 ⟨rfl, -, hC2⟩
        clear hC0
        go_wp2_with fail
        refine (beginsAtom_any _ _).mono ?_
        rintro e w' ⟨rfl, rfl⟩
        go_wp2_with fail
        go_ret
        rw [Hx.out]
        exact ⟨rfl, hC2.nx⟩

end Go.Proofs.YtnbhnjokpcdnnaaDoor

namespace Go.Proofs.YtnbhnjokpcdnnaaDoor
open Go.RowKit

theorem ExpsAt.keep {w w' : World} {O : Nat → Prop} : ∀ (l : List EX) (c : List Value), (∀ b, Refs c b → w'.heap[b]? = w.heap[b]?) → ExpsAt w O l c → ExpsAt w' O l c
  | [], _, _, h => h
  | _ :: l, _, hb, ⟨vf, va, c', hc, h1, h2⟩ => by
    subst hc
    refine ⟨vf, va, c', rfl, ⟨ownsRow_block h1.f fun b h => hb b ⟨vf, by simp [expCells], h⟩, ownsRow_block h1.a fun b h => hb b ⟨va, by simp [expCells], h⟩, h1.nf, h1.na⟩, ExpsAt.keep l c' (fun b h => hb b ?_) h2⟩
    obtain ⟨v, hv, h⟩ := h
    exact ⟨v, List.mem_append.2 (.inr hv), h⟩

theorem ExpsAt.lt {w : World} {O : Nat → Prop} : ∀ (l : List EX) (c : List Value), ExpsAt w O l c → ∀ b, Refs c b → b < w.heap.size ∧ ¬ O b
  | [], c, h, b, hb => by
    have h' : c = [] := h
    subst h'
    obtain ⟨v, hv, _⟩ := hb
    cases hv
  | _ :: l, _, ⟨vf, va, c', hc, h1, h2⟩, b, hb => by
    subst hc
    obtain ⟨v, hv, h⟩ := hb
    rcases List.mem_append.1 hv with h3 | h3
    · simp only [expCells, List.mem_cons, List.not_mem_nil, or_false] at h3
      rcases h3 with rfl | rfl | rfl | rfl | rfl | rfl | rfl | rfl
      all_goals first | (simp [Value.ownBlock] at h; done) | exact ⟨(h1.f.lt b h).2, h1.nf b h⟩ | exact ⟨(h1.a.lt b h).2, h1.na b h⟩
    · exact ExpsAt.lt l c' h2 b ⟨v, h3, h⟩

section
variable {r : Nat} {L : Value} {ws : List (Int × Int)} {w0 : World} {E0 P0 B0 : Value} {c0 : List Value} {w w' : World} {E P B E' P' B' : Value} {cE cE' : List Value} {s : RS}

/-- Blocks that are not the reader's are written. -/
theorem Cx.frX {X : Nat → Prop} (h : Cx r L ws w0 E0 P0 B0 c0 w E P B cE s) (hr : r < w0.heap.size) (hF : Fr X w w') (hX : ∀ b, X b → w0.heap.size ≤ b ∧ ¬ own r E P B b ∧ ¬ Refs cE b) : Cx r L ws w0 E0 P0 B0 c0 w' E P B cE s := by
  obtain ⟨hR, h2, h3, h4⟩ := h
  have hge := own_ge hR
  have hb : ∀ b, own r E P B b → w'.heap[b]? = w.heap[b]? := fun b hb => hF.block b (hge b hb).2 (fun hx => (hX b hx).2.1 hb)
  refine ⟨⟨(hb r (.inl rfl)).trans hR.blk, ownsRow_block hR.e fun b h => hb b (.inr (.inl h)), ExpsAt.keep _ _ (fun b h => hF.block b (ExpsAt.lt _ _ hR.eAt b h).1 (fun hx => (hX b hx).2.2 h)) hR.eAt,
    ownsRow_block hR.p fun b h => hb b (.inr (.inr (.inl h))), ownsRow_block hR.b fun b h => hb b (.inr (.inr (.inr h))), hR.ep, hR.eb, hR.pb,
    ownsRow_block hR.wl fun b h => hF.block b (hR.wl.lt b h).2 (fun hx => by have := (hX b hx).1; have := hR.wn b h; omega), hR.wn, hR.pos, hR.len⟩, h2.trans hF (fun b hx => .inr (hX b hx).1), h3, h4⟩

/-- Block l is not the reader's, and new since w0. -/
def Loc (r : Nat) (w0 : World) (E P B : Value) (cE : List Value) (l : Nat) : Prop := w0.heap.size ≤ l ∧ ¬ own r E P B l ∧ ¬ Refs cE l

theorem Cx.loc (h : Cx r L ws w0 E0 P0 B0 c0 w E P B cE s) {l : Nat} (hl : w.heap.size ≤ l) : Loc r w0 E P B cE l :=
  ⟨Nat.le_trans h.2.1.size hl, fun h' => by have := (own_ge h.1 l h').2; omega, fun h' => by have := (ExpsAt.lt _ _ h.1.eAt l h').1; omega⟩

theorem Loc.next {l : Nat} (h : Loc r w0 E P B cE l) (hl : l < w.heap.size) (hO : (∀ b, own r E' P' B' b → own r E P B b ∨ w.heap.size ≤ b) ∧ ∀ b, Refs cE' b → Refs cE b ∨ w.heap.size ≤ b ∨ NoX b) : Loc r w0 E' P' B' cE' l := by
  refine ⟨h.1, fun h' => ?_, fun h' => ?_⟩
  · rcases hO.1 l h' with h1 | h1
    · exact h.2.1 h1
    · omega
  · rcases hO.2 l h' with h1 | h1 | h1
    · exact h.2.2 h1
    · omega
    · exact h1

theorem Loc.blk {l : Nat} {o : Obj} (h : Loc r w0 E P B cE l) (hF : Fr (own r E P B) w w') (hb : w.heap[l]? = some o) : w'.heap[l]? = some o :=
  (hF.block l (Array.getElem?_eq_some_iff.1 hb).1 h.2.1).trans hb
end

theorem blk_lt {w : World} {l : Nat} {o : Obj} (h : w.heap[l]? = some o) : l < w.heap.size := (Array.getElem?_eq_some_iff.1 h).1

theorem cells3 {w : World} {l : Nat} {a b c : Value} {t : TypeId} (h : w.heap[l]? = some (.cells #[a, b, c] t (0, 0))) :
    w.cell? ⟨l, 0, none⟩ = some a ∧ w.cell? ⟨l, 1, none⟩ = some b ∧ w.cell? ⟨l, 2, none⟩ = some c ∧ w.frozen? ⟨l, 0, none⟩ = false ∧ w.frozen? ⟨l, 1, none⟩ = false ∧ w.frozen? ⟨l, 2, none⟩ = false := by
  simp [World.cell?, World.frozen?, h]

theorem cells2 {w : World} {l : Nat} {a b : Value} {t : TypeId} (h : w.heap[l]? = some (.cells #[a, b] t (0, 0))) :
    w.cell? ⟨l, 0, none⟩ = some a ∧ w.cell? ⟨l, 1, none⟩ = some b ∧ w.frozen? ⟨l, 0, none⟩ = false ∧ w.frozen? ⟨l, 1, none⟩ = false := by
  simp [World.cell?, World.frozen?, h]

theorem blk_new (w : World) (o : Obj) : (w.alloc o).heap[w.heap.size]? = some o := heap_alloc_new w o

set_option maxHeartbeats 1600000 in
set_option maxRecDepth 100000 in
theorem w_fun (ws : List (Int × Int)) (R : Nat → RS → Option (RS × Int)) (ih : Ih ws R) (s : RS) (x : RS × Int × Int × Int) (h : tFun ws R s = some x) (r : Nat) (L E P B : Value) (cE : List Value) (w : World) (hR : Rd w r L ws s E P B cE) :
    Calls Tryd.prog 52 #[.pointer (some ⟨r, 0, none⟩)] w fun e w' => e = .returned (.agg #[.int .i64 x.2.1, .int .i64 x.2.2.1, .int .i64 x.2.2.2]) ∧ Nx NoX r L ws w E P B cE w' x.1 := by
  have hr : Hid (r < w.heap.size) := (Array.getElem?_eq_some_iff.1 hR.blk).1
  have hC0 := Cx.start hR
  have hl0 := hC0.loc (Nat.le_refl _)
  clear hR
  unfold tFun at h
  obtain ⟨b, hb, h⟩ := Option.bind_eq_some_iff.1 h
  obtain ⟨p, hp, h⟩ := Option.bind_eq_some_iff.1 h
  obtain ⟨u, hu, h⟩ := Option.bind_eq_some_iff.1 h
  have Hx : Hid (x = (u.1, b.2, p.2, u.2)) := by show x = _; simpa using h.symm
  clear h
  go_enter Tryd.func52, Tryd.ntmps52
  go_wp2_with fail
  have hb0 := blk_new w (.cells #[.int .i64 0, .int .i64 0, .int .i64 0] 96)
  refine ((hC0.fr (by repeat (first | with_reducible exact Fr.refl _ _ | (with_reducible refine Fr.drew ?_) | (with_reducible refine Fr.drewN ?_ _) | (with_reducible refine Fr.alloc ?_ _) | ((with_reducible refine Fr.setCell ?_ ?_ _); rotate_left; first | exact .inl rfl | exact .inr (Nat.le_refl _) | exact .inl (Nat.le_refl _) | (focus (left; simp; done)) | (focus (left; simp; omega)) | (focus (left; omega)) | (focus (right; simp; done)) | (focus (right; simp; omega)) | (focus (right; omega))) | exact Fr.refl _ _))).binder hb).mono ?_
  rintro e w1 ⟨rfl, hF1, E1, P1, B1, c1, hC1, hO1⟩
  have hb1 := hl0.blk hF1 hb0
  have hl1 := hl0.next (blk_lt hb0) hO1
  clear hC0 hF1 hO1 hl0 hb0
  go_wp2_with fail
  refine (hC1.binder hp).mono ?_
  rintro e w2 ⟨rfl, hF2, E2, P2, B2, c2, hC2, hO2⟩
  have hb2 := hl1.blk hF2 hb1
  have hl2 := hl1.next (blk_lt hb1) hO2
  clear hC1 hF2 hO2 hl1 hb1
  go_wp2_with fail
  refine (hC2.want 26).mono ?_
  rintro e w3 ⟨rfl, hF3, E3, P3, B3, c3, hC3, hO3⟩
  have hb3 := hl2.blk hF3 hb2
  have hl3 := hl2.next (blk_lt hb2) hO3
  clear hC2 hF3 hO3 hl2 hb2
  go_wp2_with fail
  refine (hC3.call (ih 0 _ _ hu)).mono ?_
  rintro e w4 ⟨rfl, hF4, E4, P4, B4, c4, hC4, hO4⟩
  have hb4 := hl3.blk hF4 hb3
  have hl4 := hl3.next (blk_lt hb3) hO4
  clear hC3 hF4 hO4 hl3 hb3
  obtain ⟨k0, k1, k2, g0, g1, g2⟩ := cells3 hb4
  have hlt := blk_lt hb4
  have HB : Hid (w4.heap[w.heap.size]? = some (.cells #[.int .i64 0, .int .i64 0, .int .i64 0] 96 (0, 0))) := hb4
  clear hb4
  go_wp2_with fail
  refine bodyPost_ret (v := .agg #[.int .i64 b.2, .int .i64 p.2, .int .i64 u.2]) (by simp [results, Tryd.results52, go_sem, k0, k1, k2, g0, g1, g2]) rfl ?_
  rw [Hx.out]
  exact ⟨rfl, (hC4.frX hr.out (X := fun b => b = w.heap.size) (by repeat (first | with_reducible exact Fr.refl _ _ | (with_reducible refine Fr.drew ?_) | (with_reducible refine Fr.drewN ?_ _) | (with_reducible refine Fr.alloc ?_ _) | ((with_reducible refine Fr.setCell ?_ ?_ _); rotate_left; first | exact .inl rfl | exact .inr (Nat.le_refl _) | exact .inl (Nat.le_refl _) | (focus (left; simp; done)) | (focus (left; simp; omega)) | (focus (left; omega)) | (focus (right; simp; done)) | (focus (right; simp; omega)) | (focus (right; omega))) | exact Fr.refl _ _)) (by rintro b rfl; exact hl4)).nx⟩

end Go.Proofs.YtnbhnjokpcdnnaaDoor

namespace Go.Proofs.YtnbhnjokpcdnnaaDoor
open Go.RowKit

theorem Tryd.infoFun : (Tryd.prog.info? 96).map (fun i => (i.zero, i.size, i.bytes)) = some (some (.agg #[.int .i64 0, .int .i64 0, .int .i64 0]), 3, 24) := by kernel_rfl
theorem Tryd.infoArm : (Tryd.prog.info? 92).map (fun i => (i.zero, i.size, i.bytes)) = some (some (.agg #[.int .i64 0, .int .i64 0]), 2, 16) := by kernel_rfl
theorem slFun : SlT Tryd.prog 77 96 (.agg #[.int .i64 0, .int .i64 0, .int .i64 0]) 3 24 := ⟨Tryd.underlying77, info_parts Tryd.infoFun, rfl, by decide⟩
theorem slArm : SlT Tryd.prog 78 92 (.agg #[.int .i64 0, .int .i64 0]) 2 16 := ⟨Tryd.underlying78, info_parts Tryd.infoArm, rfl, by decide⟩

/-- A row of a function of the reader's: not the reader's own, and new. -/
def Loco (r : Nat) (w0 : World) (E P B : Value) (cE : List Value) (v : Value) : Prop := ∀ b, v.ownBlock = some b → Loc r w0 E P B cE b

section
variable {r : Nat} {L : Value} {ws : List (Int × Int)} {w0 : World} {E0 P0 B0 : Value} {c0 : List Value} {w w' : World} {E P B E' P' B' : Value} {cE cE' : List Value} {s : RS} {e : TypeId} {k n : Nat} {v v' : Value} {xs : List Value} {base : Nat}

theorem Loco.next (h : Loco r w0 E P B cE v) (hw : w.ownsRow base e k v n xs) (hO : (∀ b, own r E' P' B' b → own r E P B b ∨ w.heap.size ≤ b) ∧ ∀ b, Refs cE' b → Refs cE b ∨ w.heap.size ≤ b ∨ NoX b) : Loco r w0 E' P' B' cE' v :=
  fun b hb => (h b hb).next (hw.lt b hb).2 hO

theorem Loco.row (h : Loco r w0 E P B cE v) (hw : w.ownsRow base e k v n xs) (hF : Fr (own r E P B) w w') : w'.ownsRow base e k v n xs :=
  ownsRow_block hw fun b hb => hF.block b (hw.lt b hb).2 (h b hb).2.1

theorem Loco.grown (h : Loco r w0 E P B cE v) (hC : Cx r L ws w0 E0 P0 B0 c0 w E P B cE s) (hv : v'.ownBlock = v.ownBlock ∨ v'.ownBlock = some w.heap.size) : Loco r w0 E P B cE v' := by
  intro b hb
  rcases hv with h1 | h1
  · exact h b (h1 ▸ hb)
  · rw [h1] at hb; cases hb; exact hC.loc (Nat.le_refl _)

theorem Cx.grown (hC : Cx r L ws w0 E0 P0 B0 c0 w E P B cE s) (hr : r < w0.heap.size) (h : Loco r w0 E P B cE v) (hg : w.grownBy w' v.ownBlock) : Cx r L ws w0 E0 P0 B0 c0 w' E P B cE s :=
  hC.frX hr (X := fun b => v.ownBlock = some b) ((Fr.refl _ w).grown hg (fun k hk => .inl hk)) (fun b hb => h b hb)
end

theorem Cx.callF {r : Nat} {L : Value} {ws : List (Int × Int)} {w0 : World} {E0 P0 B0 : Value} {c0 : List Value} {w : World} {E P B : Value} {cE : List Value} {s : RS} {R : Nat → RS → Option (RS × Int)} (hC : Cx r L ws w0 E0 P0 B0 c0 w E P B cE s) (ih : Ih ws R)
    {x : RS × Int × Int × Int} (h : tFun ws R s = some x) :
    Calls Tryd.prog 52 #[.pointer (some ⟨r, 0, none⟩)] w fun e w' => e = .returned (.agg #[.int .i64 x.2.1, .int .i64 x.2.2.1, .int .i64 x.2.2.2]) ∧ Fr (own r E P B) w w' ∧ Cxs r L ws w0 E0 P0 B0 c0 w E P B cE w' x.1 :=
  (w_fun ws R ih s x h r L E P B cE w hC.1).mono fun _ _ hh => ⟨hh.1, (let ⟨_, _, _, _, _, hF, _⟩ := hh.2; hF), hC.go hh.2⟩

set_option maxHeartbeats 3200000 in
set_option maxRecDepth 100000 in
theorem w_letRec (ws : List (Int × Int)) (R : Nat → RS → Option (RS × Int)) (ih : Ih ws R) (n : Nat) (s : RS) (x : RS × Int) (h : tLetRec ws R n s = some x) : Ct ws 42 s x := by
  intro r L E P B cE w hR
  have hr : Hid (r < w.heap.size) := (Array.getElem?_eq_some_iff.1 hR.blk).1
  have hC0 := Cx.start hR
  clear hR
  unfold tLetRec at h
  obtain ⟨f, hf, h⟩ := Option.bind_eq_some_iff.1 h
  obtain ⟨u, hu, h⟩ := Option.bind_eq_some_iff.1 h
  have H : Hid (tFuns ws R n s [] = some f) := hf
  have HU : Hid (R 0 (rWant ws 6 f.1) = some u) := hu
  have HA : Hid (Go.Proofs.YtnbhnjokpcdnnaaDoor.add ⟨11, 0, 0, u.2, 0, 0, f.2, []⟩ u.1 = some x) := h
  clear h hf hu
  go_enter Tryd.func42, Tryd.ntmps42
  go_wp2_with fail
  go_loopg [3, 4] n (fun k fv mv wr => ∃ (sk : RS) (l : List (Int × Int × Int)) (m : Bool) (Ek Pk Bk : Value) (ck : List Value), (m = true → tFuns ws R k sk l = some f) ∧ (m = false → (sk, l) = f) ∧ mv = .bool m ∧
    wr.ownsRow w.heap.size 96 3 fv l.length (funCells l) ∧ Loco r w Ek Pk Bk ck fv ∧ Cx r L ws w E P B cE wr Ek Pk Bk ck sk)
  case atStart => exact ⟨s, [], true, _, _, _, _, (fun _ => H.out), (fun h => by cases h), rfl, World.ownsRow_nil _ _ _ _, (fun b h => by cases h), hC0⟩
  case round =>
    obtain ⟨sk, l, m, Ek, Pk, Bk, ck, hk1, hk2, rfl, hrow, hlo, hC⟩ := hrel
    clear hC0 H
    obtain ⟨la, lc, rfl⟩ := ownsRow_len hrow
    cases m with
    | false =>
      have hf := hk2 rfl
      have Hf : Hid (f = (sk, l)) := hf.symm
      clear hk1 hk2 hf
      have HU' : Hid (R 0 (rWant ws 6 sk) = some u) := by have := HU.out; rw [Hf.out] at this; exact this
      have HA' : Hid (Go.Proofs.YtnbhnjokpcdnnaaDoor.add ⟨11, 0, 0, u.2, 0, 0, l, []⟩ u.1 = some x) := by have := HA.out; rw [Hf.out] at this; exact this
      clear HU HA Hf
      go_wp2_with fail
      refine (hC.want 6).mono ?_
      rintro e w1 ⟨rfl, hF1, E1, P1, B1, c1, hC1, hO1⟩
      have hrow1 := hlo.row hrow hF1
      have hlo1 := hlo.next hrow hO1
      clear hC hF1 hO1 hlo hrow
      go_wp2_with fail
      refine (hC1.call (ih 0 _ _ HU'.out)).mono ?_
      rintro e w2 ⟨rfl, hF2, E2, P2, B2, c2, hC2, hO2⟩
      have hrow2 := hlo1.row hrow1 hF2
      have hlo2 := hlo1.next hrow1 hO2
      clear hC1 hF2 hO2 hlo1 hrow1
      go_wp2_with fail
      refine (hC2.addL HA'.out ⟨ownsRow_base hrow2 (fun _ _ => Nat.zero_le _), World.ownsRow_nil _ _ _ _, (fun b hb => (hlo2 b hb).2.1), (fun b h => by cases h)⟩ (fun b hb => by rcases hb with h1 | h1; exact (hlo2 b h1).1; cases h1)).mono ?_
      rintro e w3 ⟨rfl, E3, P3, B3, c3, hC3⟩
      clear hC2
      go_wp2_with fail
      go_ret
      exact ⟨rfl, hC3.nx⟩
    | true =>
      have hk := hk1 rfl
      clear hk1 hk2
      cases gk with
      | zero => simp [tFuns] at hk
      | succ k =>
        unfold tFuns at hk
        obtain ⟨y, hy, hk⟩ := Option.bind_eq_some_iff.1 hk
        split at hk
        case isFalse => cases hk
        case isTrue hlen =>
        have HK : Hid ((if (rTake ws 5 y.1).2 then tFuns ws R k (rTake ws 5 y.1).1 (l ++ [y.2]) else some ((rTake ws 5 y.1).1, l ++ [y.2])) = some f) := hk
        clear hk HU HA
        go_wp2_with fail
        refine (hC.callF ih hy).mono ?_
        rintro e w1 ⟨rfl, hF1, E1, P1, B1, c1, hC1, hO1⟩
        have hrow1 := hlo.row hrow hF1
        have hlo1 := hlo.next hrow hO1
        clear hC hF1 hO1 hlo hrow
        go_wp2_with (at_builtin; refine wpList_app slFun rfl (.tmp 10) (.tmp 12) rfl w.heap.size l.length (funCells l) _ rfl ?own ⟨w1.heap.size + 1, 0, none⟩ 1 1 [.int .i64 y.2.1, .int .i64 y.2.2.1, .int .i64 y.2.2.2] rfl rfl ?c1 ?c2 (by decide) ?b1 ?b2 ?b3 ?grow)
        case own => exact (hrow1.alloc _).alloc _
        case c1 => intro j u hj; match j, hj with | 0, hj | 1, hj | 2, hj => simp at hj; subst hj; simp [Addr.add]
        case c2 => intro u hu; simp at hu; rcases hu with rfl | rfl | rfl <;> rfl
        case b1 => unfold maxLen; omega
        case b2 => omega
        case b3 => have := hC1.2.1.size; simp; omega
        case grow =>
          intro v' w3 hown hgrow hv g cap hfm
          have hC2 := hC1.fr (w' := (w1.alloc (.cells #[.int .i64 y.2.1, .int .i64 y.2.2.1, .int .i64 y.2.2.2] 96)).alloc (.cells #[.int .i64 y.2.1, .int .i64 y.2.2.1, .int .i64 y.2.2.2] 96)) (by repeat (first | with_reducible exact Fr.refl _ _ | (with_reducible refine Fr.drew ?_) | (with_reducible refine Fr.drewN ?_ _) | (with_reducible refine Fr.alloc ?_ _) | ((with_reducible refine Fr.setCell ?_ ?_ _); rotate_left; first | exact .inl rfl | exact .inr (Nat.le_refl _) | exact .inl (Nat.le_refl _) | (focus (left; simp; done)) | (focus (left; simp; omega)) | (focus (left; omega)) | (focus (right; simp; done)) | (focus (right; simp; omega)) | (focus (right; omega))) | exact Fr.refl _ _))
          have hC3 := hC2.grown hr.out hlo1 hgrow
          have hlo3 := hlo1.grown hC2 (by simpa using hv)
          clear hC1 hC2 hgrow hv hrow1 hlo1
          subst hfm
          go_wp2_with fail
          refine (hC3.take 5).mono ?_
          rintro e w4 ⟨rfl, hF4, E4, P4, B4, c4, hC4, hO4⟩
          have hrow4 := hlo3.row hown hF4
          have hlo4 := hlo3.next hown hO4
          clear hC3 hF4 hO4 hlo3 hown
          go_wp2_with fail
          go_roundg k
          case measure => omega
          case rel =>
            refine ⟨(rTake ws 5 y.1).1, l ++ [y.2], (rTake ws 5 y.1).2, _, _, _, _, ?_, ?_, rfl, ?_, hlo4, hC4⟩
            · intro hm
              have := HK.out
              rw [if_pos hm] at this
              exact this
            · intro hm
              have := HK.out
              rw [if_neg (by simp [hm])] at this
              exact Option.some.inj this
            · simpa [funCells] using hrow4

end Go.Proofs.YtnbhnjokpcdnnaaDoor

namespace Go.Proofs.YtnbhnjokpcdnnaaDoor
open Go.RowKit

set_option maxHeartbeats 1600000 in
set_option maxRecDepth 100000 in
theorem w_arm (ws : List (Int × Int)) (R : Nat → RS → Option (RS × Int)) (ih : Ih ws R) (s : RS) (x : RS × Int × Int) (h : tArm ws R s = some x) (r : Nat) (L E P B : Value) (cE : List Value) (w : World) (hR : Rd w r L ws s E P B cE) :
    Calls Tryd.prog 45 #[.pointer (some ⟨r, 0, none⟩)] w fun e w' => e = .returned (.agg #[.int .i64 x.2.1, .int .i64 x.2.2]) ∧ Nx NoX r L ws w E P B cE w' x.1 := by
  have hr : Hid (r < w.heap.size) := (Array.getElem?_eq_some_iff.1 hR.blk).1
  have hC0 := Cx.start hR
  have hl0 := hC0.loc (Nat.le_refl _)
  clear hR
  unfold tArm at h
  obtain ⟨p, hp, h⟩ := Option.bind_eq_some_iff.1 h
  obtain ⟨u, hu, h⟩ := Option.bind_eq_some_iff.1 h
  have Hx : Hid (x = (u.1, p.2, u.2)) := by show x = _; simpa using h.symm
  clear h
  go_enter Tryd.func45, Tryd.ntmps45
  go_wp2_with fail
  have hb0 := blk_new w (.cells #[.int .i64 0, .int .i64 0] 92)
  refine ((hC0.fr (by repeat (first | with_reducible exact Fr.refl _ _ | (with_reducible refine Fr.drew ?_) | (with_reducible refine Fr.drewN ?_ _) | (with_reducible refine Fr.alloc ?_ _) | ((with_reducible refine Fr.setCell ?_ ?_ _); rotate_left; first | exact .inl rfl | exact .inr (Nat.le_refl _) | exact .inl (Nat.le_refl _) | (focus (left; simp; done)) | (focus (left; simp; omega)) | (focus (left; omega)) | (focus (right; simp; done)) | (focus (right; simp; omega)) | (focus (right; omega))) | exact Fr.refl _ _))).call (ih 16 _ _ hp)).mono ?_
  rintro e w1 ⟨rfl, hF1, E1, P1, B1, c1, hC1, hO1⟩
  have hb1 := hl0.blk hF1 hb0
  have hl1 := hl0.next (blk_lt hb0) hO1
  clear hC0 hF1 hO1 hl0 hb0
  go_wp2_with fail
  refine (hC1.want 23).mono ?_
  rintro e w3 ⟨rfl, hF3, E3, P3, B3, c3, hC3, hO3⟩
  have hb3 := hl1.blk hF3 hb1
  have hl3 := hl1.next (blk_lt hb1) hO3
  clear hC1 hF3 hO3 hl1 hb1
  go_wp2_with fail
  refine (hC3.call (ih 0 _ _ hu)).mono ?_
  rintro e w4 ⟨rfl, hF4, E4, P4, B4, c4, hC4, hO4⟩
  have hb4 := hl3.blk hF4 hb3
  have hl4 := hl3.next (blk_lt hb3) hO4
  clear hC3 hF4 hO4 hl3 hb3
  obtain ⟨k0, k1, g0, g1⟩ := cells2 hb4
  have hlt := blk_lt hb4
  clear hb4
  go_wp2_with fail
  refine bodyPost_ret (v := .agg #[.int .i64 p.2, .int .i64 u.2]) (by simp [results, Tryd.results45, go_sem, k0, k1, g0, g1]) rfl ?_
  rw [Hx.out]
  exact ⟨rfl, (hC4.frX hr.out (X := fun b => b = w.heap.size) (by repeat (first | with_reducible exact Fr.refl _ _ | (with_reducible refine Fr.drew ?_) | (with_reducible refine Fr.drewN ?_ _) | (with_reducible refine Fr.alloc ?_ _) | ((with_reducible refine Fr.setCell ?_ ?_ _); rotate_left; first | exact .inl rfl | exact .inr (Nat.le_refl _) | exact .inl (Nat.le_refl _) | (focus (left; simp; done)) | (focus (left; simp; omega)) | (focus (left; omega)) | (focus (right; simp; done)) | (focus (right; simp; omega)) | (focus (right; omega))) | exact Fr.refl _ _)) (by rintro b rfl; exact hl4)).nx⟩

theorem Cx.callA {r : Nat} {L : Value} {ws : List (Int × Int)} {w0 : World} {E0 P0 B0 : Value} {c0 : List Value} {w : World} {E P B : Value} {cE : List Value} {s : RS} {R : Nat → RS → Option (RS × Int)} (hC : Cx r L ws w0 E0 P0 B0 c0 w E P B cE s) (ih : Ih ws R)
    {x : RS × Int × Int} (h : tArm ws R s = some x) :
    Calls Tryd.prog 45 #[.pointer (some ⟨r, 0, none⟩)] w fun e w' => e = .returned (.agg #[.int .i64 x.2.1, .int .i64 x.2.2]) ∧ Fr (own r E P B) w w' ∧ Cxs r L ws w0 E0 P0 B0 c0 w E P B cE w' x.1 :=
  (w_arm ws R ih s x h r L E P B cE w hC.1).mono fun _ _ hh => ⟨hh.1, (let ⟨_, _, _, _, _, hF, _⟩ := hh.2; hF), hC.go hh.2⟩

set_option maxHeartbeats 3200000 in
set_option maxRecDepth 100000 in
theorem w_match (ws : List (Int × Int)) (R : Nat → RS → Option (RS × Int)) (ih : Ih ws R) (n : Nat) (s : RS) (x : RS × Int) (h : tMatch ws R n s = some x) : Ct ws 30 s x := by
  intro r L E P B cE w hR
  have hr : Hid (r < w.heap.size) := (Array.getElem?_eq_some_iff.1 hR.blk).1
  have hC0 := Cx.start hR
  clear hR
  unfold tMatch at h
  obtain ⟨u, hu, h⟩ := Option.bind_eq_some_iff.1 h
  obtain ⟨f, hf, h⟩ := Option.bind_eq_some_iff.1 h
  have H : Hid (tArms ws R n (rWant ws 12 u.1) [] = some f) := hf
  have HU : Hid (R 0 (rWant ws 11 s) = some u) := hu
  have HA : Hid (Go.Proofs.YtnbhnjokpcdnnaaDoor.add ⟨14, 0, 0, u.2, 0, 0, [], f.2⟩ (rWant ws 13 f.1) = some x) := h
  clear h hf hu
  go_enter Tryd.func30, Tryd.ntmps30
  go_wp2_with fail
  refine (hC0.want 11).mono ?_
  rintro e w1 ⟨rfl, -, E1, P1, B1, c1, hC1, -⟩
  clear hC0
  go_wp2_with fail
  refine (hC1.call (ih 0 _ _ HU.out)).mono ?_
  rintro e w2 ⟨rfl, -, E2, P2, B2, c2, hC2, -⟩
  clear hC1 HU
  go_wp2_with fail
  refine (hC2.want 12).mono ?_
  rintro e w3 ⟨rfl, -, E3, P3, B3, c3, hC3, -⟩
  clear hC2
  go_wp2_with fail
  go_loopg [4, 5] n (fun k fv mv wr => ∃ (sk : RS) (l : List (Int × Int)) (m : Bool) (Ek Pk Bk : Value) (ck : List Value), (m = true → tArms ws R k sk l = some f) ∧ (m = false → (sk, l) = f) ∧ mv = .bool m ∧
    wr.ownsRow w.heap.size 92 2 fv l.length (armCells l) ∧ Loco r w Ek Pk Bk ck fv ∧ Cx r L ws w E P B cE wr Ek Pk Bk ck sk)
  case atStart => exact ⟨_, [], true, _, _, _, _, (fun _ => H.out), (fun h => by cases h), rfl, World.ownsRow_nil _ _ _ _, (fun b h => by cases h), hC3⟩
  case round =>
    obtain ⟨sk, l, m, Ek, Pk, Bk, ck, hk1, hk2, rfl, hrow, hlo, hC⟩ := hrel
    clear hC3 H
    obtain ⟨la, lc, rfl⟩ := ownsRow_len hrow
    cases m with
    | false =>
      have hf := hk2 rfl
      have Hf : Hid (f = (sk, l)) := hf.symm
      clear hk1 hk2 hf
      have HA' : Hid (Go.Proofs.YtnbhnjokpcdnnaaDoor.add ⟨14, 0, 0, u.2, 0, 0, [], l⟩ (rWant ws 13 sk) = some x) := by have := HA.out; rw [Hf.out] at this; exact this
      clear HA Hf
      go_wp2_with fail
      refine (hC.want 13).mono ?_
      rintro e w1 ⟨rfl, hF1, E1, P1, B1, c1, hC1, hO1⟩
      have hrow1 := hlo.row hrow hF1
      have hlo1 := hlo.next hrow hO1
      clear hC hF1 hO1 hlo hrow
      go_wp2_with fail
      refine (hC1.addL HA'.out ⟨World.ownsRow_nil _ _ _ _, ownsRow_base hrow1 (fun _ _ => Nat.zero_le _), (fun b h => by cases h), (fun b hb => (hlo1 b hb).2.1)⟩ (fun b hb => by rcases hb with h1 | h1; cases h1; exact (hlo1 b h1).1)).mono ?_
      rintro e w3 ⟨rfl, E3, P3, B3, c3, hC3⟩
      clear hC1
      go_wp2_with fail
      go_ret
      exact ⟨rfl, hC3.nx⟩
    | true =>
      have hk := hk1 rfl
      clear hk1 hk2
      cases gk with
      | zero => simp [tArms] at hk
      | succ k =>
        unfold tArms at hk
        obtain ⟨y, hy, hk⟩ := Option.bind_eq_some_iff.1 hk
        split at hk
        case isFalse => cases hk
        case isTrue hlen =>
        have HK : Hid ((if (rTake ws 35 y.1).2 then tArms ws R k (rTake ws 35 y.1).1 (l ++ [y.2]) else some ((rTake ws 35 y.1).1, l ++ [y.2])) = some f) := hk
        clear hk HA
        go_wp2_with fail
        refine (hC.callA ih hy).mono ?_
        rintro e w1 ⟨rfl, hF1, E1, P1, B1, c1, hC1, hO1⟩
        have hrow1 := hlo.row hrow hF1
        have hlo1 := hlo.next hrow hO1
        clear hC hF1 hO1 hlo hrow
        go_wp2_with (at_builtin; refine wpList_app slArm rfl (.tmp 16) (.tmp 18) rfl w.heap.size l.length (armCells l) _ rfl ?own ⟨w1.heap.size + 1, 0, none⟩ 1 1 [.int .i64 y.2.1, .int .i64 y.2.2] rfl rfl ?c1 ?c2 (by decide) ?b1 ?b2 ?b3 ?grow)
        case own => exact (hrow1.alloc _).alloc _
        case c1 => intro j u hj; match j, hj with | 0, hj | 1, hj => simp at hj; subst hj; simp [Addr.add]
        case c2 => intro u hu; simp at hu; rcases hu with rfl | rfl <;> rfl
        case b1 => unfold maxLen; omega
        case b2 => omega
        case b3 => have := hC1.2.1.size; simp; omega
        case grow =>
          intro v' w3 hown hgrow hv g cap hfm
          have hC2 := hC1.fr (w' := (w1.alloc (.cells #[.int .i64 y.2.1, .int .i64 y.2.2] 92)).alloc (.cells #[.int .i64 y.2.1, .int .i64 y.2.2] 92)) (by repeat (first | with_reducible exact Fr.refl _ _ | (with_reducible refine Fr.drew ?_) | (with_reducible refine Fr.drewN ?_ _) | (with_reducible refine Fr.alloc ?_ _) | ((with_reducible refine Fr.setCell ?_ ?_ _); rotate_left; first | exact .inl rfl | exact .inr (Nat.le_refl _) | exact .inl (Nat.le_refl _) | (focus (left; simp; done)) | (focus (left; simp; omega)) | (focus (left; omega)) | (focus (right; simp; done)) | (focus (right; simp; omega)) | (focus (right; omega))) | exact Fr.refl _ _))
          have hC3 := hC2.grown hr.out hlo1 hgrow
          have hlo3 := hlo1.grown hC2 (by simpa using hv)
          clear hC1 hC2 hgrow hv hrow1 hlo1
          subst hfm
          go_wp2_with fail
          refine (hC3.take 35).mono ?_
          rintro e w4 ⟨rfl, hF4, E4, P4, B4, c4, hC4, hO4⟩
          have hrow4 := hlo3.row hown hF4
          have hlo4 := hlo3.next hown hO4
          clear hC3 hF4 hO4 hlo3 hown
          go_wp2_with fail
          go_roundg k
          case measure => omega
          case rel =>
            refine ⟨(rTake ws 35 y.1).1, l ++ [y.2], (rTake ws 35 y.1).2, _, _, _, _, ?_, ?_, rfl, ?_, hlo4, hC4⟩
            · intro hm
              have := HK.out
              rw [if_pos hm] at this
              exact this
            · intro hm
              have := HK.out
              rw [if_neg (by simp [hm])] at this
              exact Option.some.inj this
            · simpa [armCells] using hrow4

end Go.Proofs.YtnbhnjokpcdnnaaDoor

namespace Go.Proofs.YtnbhnjokpcdnnaaDoor
open Go.RowKit

theorem rdr_ih (ws : List (Int × Int)) : ∀ n, Ih ws (rdr ws n)
  | 0 => fun _ _ _ h => by simp [rdr] at h
  | n + 1 => by
    have ih := rdr_ih ws n
    intro tag s x h
    match tag, h with
    | 0, h => exact w_exp ws _ ih s x h
    | 1, h => exact w_let ws _ ih s x h
    | 2, h => exact w_fn ws _ ih s x h
    | 3, h => exact w_choice ws _ ih s x h
    | 4, h => exact w_match ws _ ih n s x h
    | 5, h => exact w_try ws _ ih s x h
    | 6, h => exact w_cmp ws _ ih s x h
    | 7, h => exact w_letRec ws _ ih n s x h
    | 8, h => exact w_cons ws _ ih s x h
    | 9, h => exact w_sum ws _ ih n s x h
    | 10, h => exact w_prod ws _ ih n s x h
    | 11, h => exact w_app ws _ ih s x h
    | 12, h => exact w_throw ws _ ih s x h
    | 13, h => exact w_call ws _ ih n s x h
    | 14, h => exact w_atom ws _ ih s x h
    | 15, h => exact w_brackets ws _ ih s x h
    | 16, h => exact w_pat ws _ ih s x h
    | 17, h => exact w_simple ws _ ih s x h
    | 18, h => exact w_patBrackets ws _ ih s x h
    | _ + 19, h => simp [rdr] at h

end Go.Proofs.YtnbhnjokpcdnnaaDoor
