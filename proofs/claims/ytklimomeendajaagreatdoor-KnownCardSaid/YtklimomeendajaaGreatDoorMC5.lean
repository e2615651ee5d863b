import Derived.Test.YtklimomeendajaaGreatDoorMC4
import Derived.Test.YtklimomeendajaaGreatDoorMB4
import Derived.Lib.ItoaNum
import Derived.Deep.LoopGhost
import Derived.Test.YtklimomeendajaaGreatDoorMB5
import Derived.Shelf.Strconv.Itoa3
import Derived.Shelf.Lay
set_option linter.unusedVariables false
set_option linter.unusedSimpArgs false
/- values: the writer; add, truth. -/
namespace Go.Proofs.YtklimomeendajaaGreatDoor
open Go.RowKit

structure Vt (q : Nat) (w : World) (T : Value) (tx : List UInt8) (n : Nat) : Prop where
  blk : w.heap[q]? = some (.cells #[T, iV n] 325 (0, 0))
  t : w.ownsRow (q + 1) 5 1 T tx.length (byC tx)
  tb : TB w
  three : 3 ≤ q

def vown (q : Nat) (T : Value) (b : Nat) : Prop := b = q ∨ T.ownBlock = some b

def Vn (q : Nat) (w : World) (T : Value) (w' : World) (tx' : List UInt8) (n' : Nat) : Prop :=
  ∃ T', Vt q w' T' tx' n' ∧ Fr (vown q T) w w' ∧ ∀ b, T'.ownBlock = some b → T.ownBlock = some b ∨ w.heap.size ≤ b

theorem vTy_writer : ¬ vTy 325 := by unfold vTy; decide
theorem vTy_u8 : ¬ vTy 5 := by unfold vTy; decide

section
variable {q : Nat} {w w1 w2 w' : World} {T T' : Value} {tx tx' : List UInt8} {n n' : Nat}

theorem Vt.lt (h : Vt q w T tx n) : q < w.heap.size := blk_lt h.blk

theorem Vt.kp (h : Vt q w T tx n) (hF : Fr (vown q T) w w') : Kp w w' := hF.kp fun b cur ty hb hg => by
  rcases hb with rfl | hb
  · exact not_vTy h.blk hg vTy_writer
  · obtain ⟨c, hc⟩ := row_blk h.t hb
    exact not_vTy hc hg vTy_u8

theorem Vt.fr (h : Vt q w T tx n) (hF : Fr (fun _ => False) w w') : Vt q w' T tx n :=
  ⟨(hF.block q h.lt id).trans h.blk, rowKeep hF h.t (fun _ _ h => h), h.tb.fr hF (fun _ h => h.elim), h.three⟩

theorem Vt.cells (h : Vt q w T tx n) : (w.cell? ⟨q, 0, none⟩ = some T ∧ w.cell? ⟨q, 1, none⟩ = some (iV n)) ∧ ∀ i, w.frozen? ⟨q, i, none⟩ = false := by
  have hb := h.blk
  exact ⟨⟨by simp [World.cell?, hb], by simp [World.cell?, hb]⟩, fun i => by simp [World.frozen?, hb]⟩

theorem Vn.refl (h : Vt q w T tx n) : Vn q w T w tx n := ⟨T, h, Fr.refl _ _, fun _ h => .inl h⟩

theorem Vn.pre (hF : Fr (vown q T) w w1) (h : Vn q w1 T w2 tx' n') : Vn q w T w2 tx' n' := by
  obtain ⟨T2, h1, h2, h3⟩ := h
  refine ⟨T2, h1, hF.trans h2 (fun b hb => .inl hb), fun b hb => ?_⟩
  rcases h3 b hb with h | h
  · exact .inl h
  · have := hF.size; exact .inr (by omega)

theorem Vn.trans {tx1 : List UInt8} {n1 : Nat} (h : Vn q w T w1 tx1 n1) (h2 : ∀ T1, Vt q w1 T1 tx1 n1 → Vn q w1 T1 w2 tx' n') : Vn q w T w2 tx' n' := by
  obtain ⟨T1, a1, a2, a3⟩ := h
  obtain ⟨T2, b1, b2, b3⟩ := h2 T1 a1
  have hsz := a2.size
  refine ⟨T2, b1, a2.trans b2 (fun b hb => ?_), fun b hb => ?_⟩
  · rcases hb with rfl | hb
    · exact .inl (.inl rfl)
    · rcases a3 b hb with h | h
      · exact .inl (.inr h)
      · exact .inr h
  · rcases b3 b hb with h | h
    · exact a3 b h
    · exact .inr (by omega)

/-- A step behind another. -/
theorem Vn.cat {T1 : Value} (hF : Fr (vown q T) w w1) (hO : ∀ b, T1.ownBlock = some b → T.ownBlock = some b ∨ w.heap.size ≤ b) (h : Vn q w1 T1 w2 tx' n') : Vn q w T w2 tx' n' := by
  obtain ⟨T2, b1, b2, b3⟩ := h
  have hsz := hF.size
  refine ⟨T2, b1, hF.trans b2 (fun b hb => ?_), fun b hb => ?_⟩
  · rcases hb with rfl | hb
    · exact .inl (.inl rfl)
    · rcases hO b hb with h | h
      · exact .inl (.inr h)
      · exact .inr h
  · rcases b3 b hb with h | h
    · exact hO b h
    · exact .inr (by omega)

/-- A block that is no writer's and no text's stays. -/
theorem Vt.blkS {b : Nat} {c : Array Value} {ty : TypeId} (h : Vt q w T tx n) (hF : Fr (vown q T) w w') (hb : w.heap[b]? = some (.cells c ty (0, 0))) (h1 : ty ≠ 325) (h2 : ty ≠ 5) : w'.heap[b]? = some (.cells c ty (0, 0)) := by
  refine (hF.block b (blk_lt hb) fun ho => ?_).trans hb
  rcases ho with rfl | ho
  · exact h1 (ty_eq hb h.blk)
  · obtain ⟨cur, hc⟩ := row_blk h.t ho
    exact h2 (ty_eq hb hc)

theorem Vn.kp {V : List Value} {v : Code} (h0 : Vt q w T tx n) (h : Vn q w T w' tx' n') (hv : Lies w v 0 V) : Lies w' v 0 V := by
  obtain ⟨_, _, a2, _⟩ := h
  exact hv.keep (h0.kp a2)

/-- The text has grown. -/
theorem Vt.text {v' : Value} {l : List UInt8} (h : Vt q w T tx n) (hg : w.grownBy w2 T.ownBlock) (hr : w2.ownsRow (q + 1) 5 1 v' (tx.length + l.length) (byC tx ++ byC l)) (hv : v'.ownBlock = T.ownBlock ∨ v'.ownBlock = some w.heap.size) :
    Vn q w T (w2.setCell ⟨q, 0, none⟩ v') (tx ++ l) n := by
  have hF2 : Fr (fun b => T.ownBlock = some b) w w2 := (Fr.refl _ w).grown hg fun k hk => .inl hk
  have hF3 : Fr (vown q T) w (w2.setCell ⟨q, 0, none⟩ v') := (hF2.mono (fun _ h => .inl (.inr h))).setCell (.inl (.inl rfl)) _
  have hF2q : Fr (fun b => b = q) w2 (w2.setCell ⟨q, 0, none⟩ v') := (by repeat (first | with_reducible exact Fr.refl _ _ | (with_reducible refine Fr.drew ?_) | (with_reducible refine Fr.drewN ?_ _) | (with_reducible refine Fr.alloc ?_ _) | ((with_reducible refine Fr.setCell ?_ ?_ _); rotate_left; first | exact .inl rfl | exact .inr (Nat.le_refl _) | exact .inl (Nat.le_refl _) | (focus (left; simp; done)) | (focus (left; simp; omega)) | (focus (left; omega)) | (focus (right; simp; done)) | (focus (right; simp; omega)) | (focus (right; omega))) | exact Fr.refl _ _))
  have hq2 : w2.heap[q]? = some (.cells #[T, iV n] 325 (0, 0)) := (hF2.block q h.lt (fun e => by have := (h.t.lt q e).1; omega)).trans h.blk
  refine ⟨v', ⟨blk_set hq2 rfl, ?_, h.tb.fr hF3 (fun b hb => ?_), h.three⟩, hF3, fun b hb => ?_⟩
  · have hr2 := rowKeep hF2q hr (fun b hb e => by have := (hr.lt b hb).1; omega)
    have e : byC (tx ++ l) = byC tx ++ byC l := by simp [byC]
    rw [e, List.length_append]
    exact hr2
  · have := h.three
    rcases hb with rfl | hb
    · exact this
    · have := (h.t.lt b hb).1; omega
  · rcases hv with h2 | h2
    · exact .inl (h2 ▸ hb)
    · rw [h2] at hb; cases hb; exact .inr (Nat.le_refl _)

set_option maxHeartbeats 600000 in
set_option maxRecDepth 100000 in
theorem add_v (h : Vt q w T tx n) (l : List UInt8) (hl : tx.length + l.length ≤ 4000000000) :
    Calls Tryz.prog 252 #[pT q, .string (bz l)] w fun e w' => e = .returned (.tuple #[]) ∧ Vn q w T w' (tx ++ l) n := by
  have HW : Hid (Vt q w T tx n) := h
  obtain ⟨⟨c0, -⟩, hfz⟩ := h.cells
  have f0 := hfz 0
  have hq := h.lt
  have hT := h.t
  obtain ⟨ta, tc, rfl⟩ := ownsRow_len h.t
  have HTq : Hid (∀ b, (Value.slice ta tx.length tc).ownBlock = some b → q + 1 ≤ b) := fun b hb => (hT.lt b hb).1
  clear h hfz
  go_enter Tryz.func252, Tryz.ntmps252
  go_wp2_with (at_builtin; refine wpList_app_str slBy Tryz.underlying9 rfl (.tmp 8) (.tmp 9) rfl (q + 1) tx.length (byC tx) _ rfl hT l rfl ?b1 ?b2 ?b3 ?grow)
  case b1 => unfold maxLen; omega
  case b2 => omega
  case b3 => omega
  case grow =>
    intro v' w3 hown hgrow hv
    obtain ⟨va, vc, rfl⟩ := ownsRow_len hown
    have hb2 : w3.heap[q]? = w.heap[q]? := hgrow.block q hq (fun e => by have := HTq.out q e.symm; omega)
    have k2 := World.cell?_of_block (w := w) (a := ⟨q, 0, none⟩) hb2
    have z2 := World.frozen?_of_block (w := w) (a := ⟨q, 0, none⟩) hb2
    rw [c0] at k2
    rw [f0] at z2
    have hq3 : q < w3.heap.size := Nat.lt_of_lt_of_le hq hgrow.size
    have HN : Hid (Vn q w (.slice ta tx.length tc) (w3.setCell ⟨q, 0, none⟩ (.slice va (tx.length + l.length) vc)) (tx ++ l) n) := HW.out.text hgrow hown hv
    clear hown hgrow hv hb2 hT c0 f0
    go_wp2_with fail
    go_end0
    exact ⟨rfl, HN.out⟩

set_option maxHeartbeats 600000 in
set_option maxRecDepth 100000 in
theorem truth_v (h : Vt q w T tx n) {k m : Int} {p : Value} {pr bd : Int} {x y : Value} (hl : tx.length ≤ 1000000000) :
    Calls Tryz.prog 253 #[pT q, .agg #[iV k, iV m, p, iV pr, iV bd, x, y]] w fun e w' => e = .returned (.tuple #[]) ∧ Vn q w T w' (tx ++ (if m = 1 then [116, 114, 117, 101] else [102, 97, 108, 115, 101])) n := by
  have HW : Hid (Vt q w T tx n) := h
  have hq := h.lt
  clear h
  have hW : Fr (fun _ => False) w (w.alloc (.cells #[iV k, iV m, p, iV pr, iV bd, x, y] 196)) := (Fr.refl _ w).alloc _
  have HFW : Hid (Fr (vown q T) w (w.alloc (.cells #[iV k, iV m, p, iV pr, iV bd, x, y] 196))) := hW.mono (fun _ h => h.elim)
  have HVW : Hid (Vt q (w.alloc (.cells #[iV k, iV m, p, iV pr, iV bd, x, y] 196)) T tx n) := HW.out.fr hW
  clear hW
  go_enter Tryz.func253, Tryz.ntmps253
  by_cases hm : m = 1
  · rw [if_pos hm]
    subst hm
    go_wp2_with fail
    refine (add_v HVW.out [116, 114, 117, 101] (by simp; omega)).mono ?_
    rintro r w3 ⟨rfl, hV⟩
    have HV : Hid (Vn q w T w3 (tx ++ [116, 114, 117, 101]) n) := hV.pre HFW.out
    clear hV
    go_wp2_with fail
    go_end0
    exact ⟨rfl, HV.out⟩
  · rw [if_neg hm]
    go_wp2_with fail
    refine (add_v HVW.out [102, 97, 108, 115, 101] (by simp; omega)).mono ?_
    rintro r w3 ⟨rfl, hV⟩
    have HV : Hid (Vn q w T w3 (tx ++ [102, 97, 108, 115, 101]) n) := hV.pre HFW.out
    clear hV
    go_wp2_with fail
    go_end0
    exact ⟨rfl, HV.out⟩
end
end Go.Proofs.YtklimomeendajaaGreatDoor

/- decimals -/
namespace Go.Proofs.YtklimomeendajaaGreatDoor
open Go.RowKit

theorem decN_eq : ∀ (f u : Nat) (o : List UInt8), u < 10 ^ f → 0 < f → decN f u o = Lib.decDigits u ++ o
  | 0, _, _, _, h => absurd h (by decide)
  | f + 1, u, o, h, _ => by
    rw [Lib.decDigits]
    unfold decN
    by_cases hu : u < 10
    · rw [if_pos hu, dif_pos hu]
      rfl
    · rw [if_neg hu, dif_neg hu]
      have hf : 0 < f := by
        rcases f with _ | f
        · simp at h; omega
        · omega
      rw [decN_eq f (u / 10) _ (by rw [Nat.pow_succ] at h; omega) hf]
      simp

theorem decI_eq (n : Int) (h0 : -9223372036854775808 ≤ n) (h1 : n ≤ 9223372036854775807) : decI n = Lib.itoa n := by
  unfold decI Lib.itoa
  have hp : (10 : Nat) ^ 25 = 10000000000000000000000000 := by decide
  by_cases hn : n < 0
  · rw [if_pos hn, if_pos hn, decN_eq _ _ _ (by rw [hp]; omega) (by decide)]
    simp
  · rw [if_neg hn, if_neg hn, decN_eq _ _ _ (by rw [hp]; omega) (by decide), show n.natAbs = n.toNat by omega]
    simp

theorem decN_len : ∀ (f u : Nat) (o : List UInt8), (decN f u o).length ≤ f + o.length
  | 0, _, _ => by simp [decN]
  | f + 1, u, o => by
    unfold decN
    split
    · simp; omega
    · have := decN_len f (u / 10) (UInt8.ofNat (48 + u % 10) :: o)
      simp only [List.length_cons] at this
      omega

theorem decI_len (n : Int) : (decI n).length ≤ 26 := by
  unfold decI
  split
  · have := decN_len 25 n.natAbs []
    simp at this ⊢
    omega
  · have := decN_len 25 n.natAbs []
    simp at this
    omega
end Go.Proofs.YtklimomeendajaaGreatDoor

/- values: write's parts. -/
namespace Go.Proofs.YtklimomeendajaaGreatDoor
open Go.RowKit

def ItOk : Prop := ∀ (w : World) (n : Int), TB w → -9223372036854775808 ≤ n → n ≤ 9223372036854775807 → Calls Tryz.prog 215 #[iV n] w fun e w' => e = .returned (.string (bz (decI n))) ∧ Fr (fun _ => False) w w'

def WOk (g : Nat) : Prop := ∀ (v : Code) (tx : List UInt8) (n : Nat) (tx' : List UInt8) (n' : Nat), vWr g none v (tx, n) = some (tx', n') → ∀ (w : World) (q : Nat) (T : Value) (V : List Value), Vt q w T tx n → Lies w v 0 V →
  Calls Tryz.prog 240 #[pT q, .agg V.toArray] w fun e w' => e = .returned (.tuple #[]) ∧ Vn q w T w' tx' n'

theorem pa_cells {w : World} {g : Nat} {a0 a1 a2 a3 a4 a5 a6 b0 b1 b2 b3 b4 b5 b6 : Value} {ty : TypeId} (h : w.heap[g]? = some (.cells #[a0, a1, a2, a3, a4, a5, a6, b0, b1, b2, b3, b4, b5, b6] ty (0, 0))) :
    w.cell? ⟨g, 0, none⟩ = some a0 ∧ w.cell? ⟨g, 1, none⟩ = some a1 ∧ w.cell? ⟨g, 2, none⟩ = some a2 ∧ w.cell? ⟨g, 3, none⟩ = some a3 ∧ w.cell? ⟨g, 4, none⟩ = some a4 ∧ w.cell? ⟨g, 5, none⟩ = some a5 ∧ w.cell? ⟨g, 6, none⟩ = some a6 ∧
    w.cell? ⟨g, 7, none⟩ = some b0 ∧ w.cell? ⟨g, 8, none⟩ = some b1 ∧ w.cell? ⟨g, 9, none⟩ = some b2 ∧ w.cell? ⟨g, 10, none⟩ = some b3 ∧ w.cell? ⟨g, 11, none⟩ = some b4 ∧ w.cell? ⟨g, 12, none⟩ = some b5 ∧ w.cell? ⟨g, 13, none⟩ = some b6 := by
  simp [World.cell?, h]

/-- A value and its parts. -/
theorem parts_out {w : World} {a b : Code} {x : Value} (h : Lies w (cP a b) 3 [x]) : ∃ g k n p pr bd s t k' n' p' pr' bd' s' t', x = pT g ∧ Lies w a 0 (vCells k n p pr bd s t) ∧ Lies w b 0 (vCells k' n' p' pr' bd' s' t') ∧
    w.heap[g]? = some (.cells #[iV k, iV n, p, iV pr, iV bd, s, t, iV k', iV n', p', iV pr', iV bd', s', t'] 328 (0, 0)) := by
  rcases pa_out h with ⟨h1, _⟩ | ⟨a', b', A, B, g, h1, h2, h3, h4, h5⟩
  · cases h1
  · injection h1 with e1 e2
    subst e1 e2
    obtain ⟨k, n, _, pr, bd, _, _, p, s, t, _, rfl, _⟩ := val_out h4
    obtain ⟨k', n', _, pr', bd', _, _, p', s', t', _, rfl, _⟩ := val_out h5
    exact ⟨g, k, n, p, pr, bd, s, t, k', n', p', pr', bd', s', t', h2, h4, h5, h3⟩

section
variable {q : Nat} {w w1 w2 w' : World} {T T' : Value} {tx tx' : List UInt8} {n n' : Nat}

set_option maxHeartbeats 1600000 in
set_option maxRecDepth 100000 in
theorem pair_v {f : Nat} (ih : WOk f) {a b : Code} {tx1 : List UInt8} {n1 : Nat} (h : Vt q w T tx n) {k m : Int} {p : Value} {pr bd : Int} {x y : Value} (hp : Lies w (cP a b) 3 [p]) (hl : tx.length ≤ 1000000000) (h1 : vWr f none a (tx ++ [40], n) = some (tx1, n1)) (h2 : vWr f none b (tx1 ++ [44], n1) = some (tx', n')) (hl1 : tx1.length ≤ 1000000000) (hl2 : tx'.length ≤ 2000000000) :
    Calls Tryz.prog 255 #[pT q, .agg #[iV k, iV m, p, iV pr, iV bd, x, y]] w fun e w' => e = .returned (.tuple #[]) ∧ Vn q w T w' (tx' ++ [41]) n' := by
  obtain ⟨g, ka, na, pa, pra, bda, sa, ta, kb, nb, pb, prb, bdb, sb, tb, rfl, ha, hb, hg⟩ := parts_out hp
  obtain ⟨W, hW⟩ : ∃ W, W = w.alloc (.cells #[iV k, iV m, pT g, iV pr, iV bd, x, y] 196) := ⟨_, rfl⟩
  have hFW : Fr (fun _ => False) w W := by rw [hW]; exact (Fr.refl _ w).alloc _
  have hBW : W.heap[w.heap.size]? = some (.cells #[iV k, iV m, pT g, iV pr, iV bd, x, y] 196 (0, 0)) := by rw [hW]; exact blk_new w _
  have hkW : Kp w W := hFW.kp fun _ _ _ h => h.elim
  have H1 : Hid (vWr f none a (tx ++ [40], n) = some (tx1, n1)) := h1
  have H2 : Hid (vWr f none b (tx1 ++ [44], n1) = some (tx', n')) := h2
  have HV : Hid (Vt q W T tx n) := h.fr hFW
  have HF0 : Hid (Fr (vown q T) w W) := hFW.mono (fun _ h => h.elim)
  have HA : Hid (Lies W a 0 (vCells ka na pa pra bda sa ta)) := ha.keep hkW
  have HB : Hid (Lies W b 0 (vCells kb nb pb prb bdb sb tb)) := hb.keep hkW
  have HG : Hid (W.heap[g]? = some (.cells #[iV ka, iV na, pa, iV pra, iV bda, sa, ta, iV kb, iV nb, pb, iV prb, iV bdb, sb, tb] 328 (0, 0))) := (hFW.block g (blk_lt hg) id).trans hg
  have HBW : Hid (W.heap[w.heap.size]? = some (.cells #[iV k, iV m, pT g, iV pr, iV bd, x, y] 196 (0, 0))) := hBW
  have HQ : Hid (q < w.heap.size) := h.lt
  clear h hp ha hb hg h1 h2 hkW hBW hFW
  go_enter Tryz.func255, Tryz.ntmps255
  go_wp2_with fail
  rw [← hW]
  clear hW
  refine (add_v HV.out [40] (by simp; omega)).mono ?_
  rintro r1 w1 ⟨rfl, hV⟩
  have hFs : Fr (vown q T) W w1 := hV.choose_spec.2.1
  have hB1 : w1.heap[w.heap.size]? = some (.cells #[iV k, iV m, pT g, iV pr, iV bd, x, y] 196 (0, 0)) := HV.out.blkS hFs HBW.out (by decide) (by decide)
  have hG1 : w1.heap[g]? = some (.cells #[iV ka, iV na, pa, iV pra, iV bda, sa, ta, iV kb, iV nb, pb, iV prb, iV bdb, sb, tb] 328 (0, 0)) := HV.out.blkS hFs HG.out (by decide) (by decide)
  have HB1 : Hid (w1.heap[w.heap.size]? = some (.cells #[iV k, iV m, pT g, iV pr, iV bd, x, y] 196 (0, 0))) := hB1
  have HG1 : Hid (w1.heap[g]? = some (.cells #[iV ka, iV na, pa, iV pra, iV bda, sa, ta, iV kb, iV nb, pb, iV prb, iV bdb, sb, tb] 328 (0, 0))) := hG1
  have HLa1 : Hid (Lies w1 a 0 (vCells ka na pa pra bda sa ta)) := HA.out.keep (HV.out.kp hFs)
  have HLb1 : Hid (Lies w1 b 0 (vCells kb nb pb prb bdb sb tb)) := HB.out.keep (HV.out.kp hFs)
  have hN1 : Vn q w T w1 (tx ++ [40]) n := hV.pre HF0.out
  obtain ⟨T1, hT1, hF1, hO1⟩ := hN1
  have HT1 : Hid (Vt q w1 T1 (tx ++ [40]) n) := hT1
  have HF1 : Hid (Fr (vown q T) w w1) := hF1
  have HO1 : Hid (∀ b, T1.ownBlock = some b → T.ownBlock = some b ∨ w.heap.size ≤ b) := hO1
  obtain ⟨⟨y0, y1, y2, y3, y4, y5, y6⟩, -⟩ := cells7 hB1
  have yl := blk_lt hB1
  obtain ⟨z0, z1, z2, z3, z4, z5, z6, z7, z8, z9, z10, z11, z12, z13⟩ := pa_cells hG1
  have zl := blk_lt hG1
  clear hV hFs hB1 hG1 hT1 hF1 hO1
  go_wp2_with fail
  clear y0 y1 y2 y3 y4 y5 y6 yl z0 z1 z2 z3 z4 z5 z6 z7 z8 z9 z10 z11 z12 z13 zl
  refine (ih _ _ _ _ _ H1.out _ _ _ _ HT1.out HLa1.out).mono ?_
  rintro r2 w2 ⟨rfl, hV⟩
  have hFs : Fr (vown q T1) w1 w2 := hV.choose_spec.2.1
  have hB2 : w2.heap[w.heap.size]? = some (.cells #[iV k, iV m, pT g, iV pr, iV bd, x, y] 196 (0, 0)) := HT1.out.blkS hFs HB1.out (by decide) (by decide)
  have hG2 : w2.heap[g]? = some (.cells #[iV ka, iV na, pa, iV pra, iV bda, sa, ta, iV kb, iV nb, pb, iV prb, iV bdb, sb, tb] 328 (0, 0)) := HT1.out.blkS hFs HG1.out (by decide) (by decide)
  have HB2 : Hid (w2.heap[w.heap.size]? = some (.cells #[iV k, iV m, pT g, iV pr, iV bd, x, y] 196 (0, 0))) := hB2
  have HG2 : Hid (w2.heap[g]? = some (.cells #[iV ka, iV na, pa, iV pra, iV bda, sa, ta, iV kb, iV nb, pb, iV prb, iV bdb, sb, tb] 328 (0, 0))) := hG2
  have HLa2 : Hid (Lies w2 a 0 (vCells ka na pa pra bda sa ta)) := HLa1.out.keep (HT1.out.kp hFs)
  have HLb2 : Hid (Lies w2 b 0 (vCells kb nb pb prb bdb sb tb)) := HLb1.out.keep (HT1.out.kp hFs)
  have hN2 : Vn q w T w2 tx1 n1 := hV.cat HF1.out HO1.out
  obtain ⟨T2, hT2, hF2, hO2⟩ := hN2
  have HT2 : Hid (Vt q w2 T2 tx1 n1) := hT2
  have HF2 : Hid (Fr (vown q T) w w2) := hF2
  have HO2 : Hid (∀ b, T2.ownBlock = some b → T.ownBlock = some b ∨ w.heap.size ≤ b) := hO2
  obtain ⟨⟨y0, y1, y2, y3, y4, y5, y6⟩, -⟩ := cells7 hB2
  have yl := blk_lt hB2
  obtain ⟨z0, z1, z2, z3, z4, z5, z6, z7, z8, z9, z10, z11, z12, z13⟩ := pa_cells hG2
  have zl := blk_lt hG2
  clear hV hFs hB2 hG2 hT2 hF2 hO2
  go_wp2_with fail
  clear y0 y1 y2 y3 y4 y5 y6 yl z0 z1 z2 z3 z4 z5 z6 z7 z8 z9 z10 z11 z12 z13 zl
  refine (add_v HT2.out [44] (by simp; omega)).mono ?_
  rintro r3 w3 ⟨rfl, hV⟩
  have hFs : Fr (vown q T2) w2 w3 := hV.choose_spec.2.1
  have hB3 : w3.heap[w.heap.size]? = some (.cells #[iV k, iV m, pT g, iV pr, iV bd, x, y] 196 (0, 0)) := HT2.out.blkS hFs HB2.out (by decide) (by decide)
  have hG3 : w3.heap[g]? = some (.cells #[iV ka, iV na, pa, iV pra, iV bda, sa, ta, iV kb, iV nb, pb, iV prb, iV bdb, sb, tb] 328 (0, 0)) := HT2.out.blkS hFs HG2.out (by decide) (by decide)
  have HB3 : Hid (w3.heap[w.heap.size]? = some (.cells #[iV k, iV m, pT g, iV pr, iV bd, x, y] 196 (0, 0))) := hB3
  have HG3 : Hid (w3.heap[g]? = some (.cells #[iV ka, iV na, pa, iV pra, iV bda, sa, ta, iV kb, iV nb, pb, iV prb, iV bdb, sb, tb] 328 (0, 0))) := hG3
  have HLa3 : Hid (Lies w3 a 0 (vCells ka na pa pra bda sa ta)) := HLa2.out.keep (HT2.out.kp hFs)
  have HLb3 : Hid (Lies w3 b 0 (vCells kb nb pb prb bdb sb tb)) := HLb2.out.keep (HT2.out.kp hFs)
  have hN3 : Vn q w T w3 (tx1 ++ [44]) n1 := hV.cat HF2.out HO2.out
  obtain ⟨T3, hT3, hF3, hO3⟩ := hN3
  have HT3 : Hid (Vt q w3 T3 (tx1 ++ [44]) n1) := hT3
  have HF3 : Hid (Fr (vown q T) w w3) := hF3
  have HO3 : Hid (∀ b, T3.ownBlock = some b → T.ownBlock = some b ∨ w.heap.size ≤ b) := hO3
  obtain ⟨⟨y0, y1, y2, y3, y4, y5, y6⟩, -⟩ := cells7 hB3
  have yl := blk_lt hB3
  obtain ⟨z0, z1, z2, z3, z4, z5, z6, z7, z8, z9, z10, z11, z12, z13⟩ := pa_cells hG3
  have zl := blk_lt hG3
  clear hV hFs hB3 hG3 hT3 hF3 hO3
  go_wp2_with fail
  clear y0 y1 y2 y3 y4 y5 y6 yl z0 z1 z2 z3 z4 z5 z6 z7 z8 z9 z10 z11 z12 z13 zl
  refine (ih _ _ _ _ _ H2.out _ _ _ _ HT3.out HLb3.out).mono ?_
  rintro r4 w4 ⟨rfl, hV⟩
  have hFs : Fr (vown q T3) w3 w4 := hV.choose_spec.2.1
  have hB4 : w4.heap[w.heap.size]? = some (.cells #[iV k, iV m, pT g, iV pr, iV bd, x, y] 196 (0, 0)) := HT3.out.blkS hFs HB3.out (by decide) (by decide)
  have hG4 : w4.heap[g]? = some (.cells #[iV ka, iV na, pa, iV pra, iV bda, sa, ta, iV kb, iV nb, pb, iV prb, iV bdb, sb, tb] 328 (0, 0)) := HT3.out.blkS hFs HG3.out (by decide) (by decide)
  have HB4 : Hid (w4.heap[w.heap.size]? = some (.cells #[iV k, iV m, pT g, iV pr, iV bd, x, y] 196 (0, 0))) := hB4
  have HG4 : Hid (w4.heap[g]? = some (.cells #[iV ka, iV na, pa, iV pra, iV bda, sa, ta, iV kb, iV nb, pb, iV prb, iV bdb, sb, tb] 328 (0, 0))) := hG4
  have HLa4 : Hid (Lies w4 a 0 (vCells ka na pa pra bda sa ta)) := HLa3.out.keep (HT3.out.kp hFs)
  have HLb4 : Hid (Lies w4 b 0 (vCells kb nb pb prb bdb sb tb)) := HLb3.out.keep (HT3.out.kp hFs)
  have hN4 : Vn q w T w4 tx' n' := hV.cat HF3.out HO3.out
  obtain ⟨T4, hT4, hF4, hO4⟩ := hN4
  have HT4 : Hid (Vt q w4 T4 tx' n') := hT4
  have HF4 : Hid (Fr (vown q T) w w4) := hF4
  have HO4 : Hid (∀ b, T4.ownBlock = some b → T.ownBlock = some b ∨ w.heap.size ≤ b) := hO4
  obtain ⟨⟨y0, y1, y2, y3, y4, y5, y6⟩, -⟩ := cells7 hB4
  have yl := blk_lt hB4
  obtain ⟨z0, z1, z2, z3, z4, z5, z6, z7, z8, z9, z10, z11, z12, z13⟩ := pa_cells hG4
  have zl := blk_lt hG4
  clear hV hFs hB4 hG4 hT4 hF4 hO4
  go_wp2_with fail
  clear y0 y1 y2 y3 y4 y5 y6 yl z0 z1 z2 z3 z4 z5 z6 z7 z8 z9 z10 z11 z12 z13 zl
  refine (add_v HT4.out [41] (by simp; omega)).mono ?_
  rintro r5 w5 ⟨rfl, hV⟩
  have HN : Hid (Vn q w T w5 (tx' ++ [41]) n') := hV.cat HF4.out HO4.out
  clear hV
  go_wp2_with fail
  (first | go_end0 | ((try simp only [Exit.inBlock, Exit.then]); refine bodyPost_ret (results_none rfl _ _ _) rfl ?_))
  exact ⟨rfl, HN.out⟩
end
end Go.Proofs.YtklimomeendajaaGreatDoor

/- values: list. -/
namespace Go.Proofs.YtklimomeendajaaGreatDoor
open Go.RowKit

theorem vTy_value : ¬ vTy 196 := by unfold vTy; decide

/-- How the list's loop stands. -/
structure Lc (q : Nat) (w : World) (T : Value) (x : List UInt8 × Nat) (f : Nat) (sign : List UInt8) (wr : World) : Prop where
  ex : ∃ (v : Code) (V : List Value) (T' : Value) (tx : List UInt8) (n : Nat), wr.heap[w.heap.size]? = some (.cells V.toArray 196 (0, 0)) ∧ Lies wr v 0 V ∧ Vt q wr T' tx n ∧ vWr f (some sign) v (tx, n) = some x ∧ Fr (vown q T) w wr ∧ ∀ b, T'.ownBlock = some b → T.ownBlock = some b ∨ w.heap.size ≤ b
  sl : sign.length ≤ 1

section
variable {q : Nat} {w w1 w2 w' : World} {T T' : Value} {tx tx' : List UInt8} {n n' : Nat}

theorem set7 {w : World} {q : Nat} {a b c d e f g : Value} {ty : TypeId} (hb : w.heap[q]? = some (.cells #[a, b, c, d, e, f, g] ty (0, 0))) (a' b' c' d' e' f' g' : Value) :
    (((((((w.setCell ⟨q, 0, none⟩ a').setCell ⟨q, 1, none⟩ b').setCell ⟨q, 2, none⟩ c').setCell ⟨q, 3, none⟩ d').setCell ⟨q, 4, none⟩ e').setCell ⟨q, 5, none⟩ f').setCell ⟨q, 6, none⟩ g').heap[q]? = some (.cells #[a', b', c', d', e', f', g'] ty (0, 0)) ∧
    Fr (fun b => b = q) w (((((((w.setCell ⟨q, 0, none⟩ a').setCell ⟨q, 1, none⟩ b').setCell ⟨q, 2, none⟩ c').setCell ⟨q, 3, none⟩ d').setCell ⟨q, 4, none⟩ e').setCell ⟨q, 5, none⟩ f').setCell ⟨q, 6, none⟩ g') := by
  constructor
  · have h0 := blk_set (i := 0) (v := a') (c' := #[a', b, c, d, e, f, g]) hb rfl
    have h1 := blk_set (i := 1) (v := b') (c' := #[a', b', c, d, e, f, g]) h0 rfl
    have h2 := blk_set (i := 2) (v := c') (c' := #[a', b', c', d, e, f, g]) h1 rfl
    have h3 := blk_set (i := 3) (v := d') (c' := #[a', b', c', d', e, f, g]) h2 rfl
    have h4 := blk_set (i := 4) (v := e') (c' := #[a', b', c', d', e', f, g]) h3 rfl
    have h5 := blk_set (i := 5) (v := f') (c' := #[a', b', c', d', e', f', g]) h4 rfl
    exact blk_set (i := 6) (v := g') (c' := #[a', b', c', d', e', f', g']) h5 rfl
  · exact (by repeat (first | with_reducible exact Fr.refl _ _ | (with_reducible refine Fr.drew ?_) | (with_reducible refine Fr.drewN ?_ _) | (with_reducible refine Fr.alloc ?_ _) | ((with_reducible refine Fr.setCell ?_ ?_ _); rotate_left; first | exact .inl rfl | exact .inr (Nat.le_refl _) | exact .inl (Nat.le_refl _) | (focus (left; simp; done)) | (focus (left; simp; omega)) | (focus (left; omega)) | (focus (right; simp; done)) | (focus (right; simp; omega)) | (focus (right; omega))) | exact Fr.refl _ _))

/-- A block that is no writer's and no text's is written. -/
theorem Vt.frB {b : Nat} {c : Array Value} {ty : TypeId} (h : Vt q w T tx n) (hF : Fr (fun k => k = b) w w') (hb : w.heap[b]? = some (.cells c ty (0, 0))) (h1 : ty ≠ 325) (h2 : ty ≠ 5) (hqb : q < b) : Vt q w' T tx n :=
  ⟨(hF.block q h.lt (by omega)).trans h.blk, rowKeep hF h.t (fun k hk e => by subst e; obtain ⟨cur, hc⟩ := row_blk h.t hk; exact h2 (ty_eq hb hc)), h.tb.fr hF (fun k hk => by have := h.three; omega), h.three⟩

set_option maxHeartbeats 3200000 in
set_option maxRecDepth 100000 in
theorem list_v {f : Nat} (ih : ∀ g, g < f → WOk g) {v : Code} (h : Vt q w T tx n) {k m : Int} {p : Value} {pr bd : Int} {x y : Value} (hv : Lies w v 0 (vCells k m p pr bd x y)) (hl : tx.length ≤ 1000000000) (h1 : vWr f (some []) v (tx ++ [91], n) = some (tx', n')) (hl2 : tx'.length ≤ 2000000000) :
    Calls Tryz.prog 254 #[pT q, .agg #[iV k, iV m, p, iV pr, iV bd, x, y]] w fun e w' => e = .returned (.tuple #[]) ∧ Vn q w T w' (tx' ++ [93]) n' := by
  obtain ⟨W, hW⟩ : ∃ W, W = w.alloc (.cells #[iV k, iV m, p, iV pr, iV bd, x, y] 196) := ⟨_, rfl⟩
  have hFW : Fr (fun _ => False) w W := by rw [hW]; exact (Fr.refl _ w).alloc _
  have hBW : W.heap[w.heap.size]? = some (.cells #[iV k, iV m, p, iV pr, iV bd, x, y] 196 (0, 0)) := by rw [hW]; exact blk_new w _
  have hkW : Kp w W := hFW.kp fun _ _ _ h => h.elim
  have H1 : Hid (vWr f (some []) v (tx ++ [91], n) = some (tx', n')) := h1
  have HV : Hid (Vt q W T tx n) := h.fr hFW
  have HF0 : Hid (Fr (vown q T) w W) := hFW.mono (fun _ h => h.elim)
  have HL : Hid (Lies W v 0 (vCells k m p pr bd x y)) := hv.keep hkW
  have HBW : Hid (W.heap[w.heap.size]? = some (.cells #[iV k, iV m, p, iV pr, iV bd, x, y] 196 (0, 0))) := hBW
  have HQ : Hid (q < w.heap.size) := h.lt
  clear h hv h1 hkW hBW hFW
  go_enter Tryz.func254, Tryz.ntmps254
  go_wp2_with fail
  rw [← hW]
  clear hW
  refine (add_v HV.out [91] (by simp; omega)).mono ?_
  rintro r1 w1 ⟨rfl, hV⟩
  have hFs : Fr (vown q T) W w1 := hV.choose_spec.2.1
  have hB1 := HV.out.blkS hFs HBW.out (by decide) (by decide)
  have hL1 := HL.out.keep (HV.out.kp hFs)
  have hN1 : Vn q w T w1 (tx ++ [91]) n := hV.pre HF0.out
  obtain ⟨T1, hT1, hF1, hO1⟩ := hN1
  have HC : Hid (Lc q w T (tx', n') f [] w1) := ⟨⟨v, _, T1, _, _, hB1, hL1, hT1, H1.out, hF1, hO1⟩, by decide⟩
  clear hV hFs hB1 hL1 hT1 hF1 hO1 H1
  go_wp2_with fail
  go_loopg [4] f (fun k sv wr => ∃ (sign : List UInt8), sv = .string (bz sign) ∧ k ≤ f ∧ Lc q w T (tx', n') k sign wr)
  case atStart => exact ⟨[], rfl, Nat.le_refl _, HC.out⟩
  case round =>
    obtain ⟨sign, rfl, hkf, ⟨⟨v', V', T', tx2, n2, hB, hLv, hVt, hw, hF, hO⟩, hsl⟩⟩ := hrel
    rcases gk with _ | g
    · simp [vWr] at hw
    unfold vWr at hw
    split at hw
    · cases hw
    rename_i hbnd
    have hb1 : tx2.length ≤ 1000000000 ∧ n2 ≤ 1000000000 := by simp only at hbnd; omega
    obtain ⟨k2, m2, pa2, pr2, bd2, sg2, wt2, p2, x2, y2, rfl, rfl, hpa, hsg, hwt⟩ := val_out hLv
    have HB : Hid (wr.heap[w.heap.size]? = some (.cells #[iV k2, iV m2, p2, iV pr2, iV bd2, x2, y2] 196 (0, 0))) := hB
    have HVt : Hid (Vt q wr T' tx2 n2) := hVt
    have HF : Hid (Fr (vown q T) w wr) := hF
    have HO : Hid (∀ b, T'.ownBlock = some b → T.ownBlock = some b ∨ w.heap.size ≤ b) := hO
    obtain ⟨⟨y0, y1, y2', y3, y4, y5, y6⟩, -⟩ := cells7 hB
    obtain ⟨⟨-, cq⟩, -⟩ := hVt.cells
    have yl := blk_lt hB
    have ql := hVt.lt
    have e1 : vParts (vMk k2 m2 pa2 pr2 bd2 sg2 wt2) = pa2 := rfl
    rw [e1] at hw
    clear hB hF hO hLv e1 hVt hsg hwt hbnd
    rcases pa_out hpa with ⟨rfl, rfl⟩ | ⟨a, b, _, _, gg, rfl, hp2, -, -, -⟩
    · rw [if_neg (by simp [isC])] at hw
      injection hw with hw
      injection hw with hw1 hw2
      subst hw1 hw2
      clear hpa
      go_wp2_with fail
      refine (add_v HVt.out [93] (by simp; omega)).mono ?_
      rintro r5 w5 ⟨rfl, hV⟩
      have HN : Hid (Vn q w T w5 (tx2 ++ [93]) n2) := hV.cat HF.out HO.out
      clear hV
      go_wp2_with fail
      (first | go_end0 | ((try simp only [Exit.inBlock, Exit.then]); refine bodyPost_ret (results_none rfl _ _ _) rfl ?_))
      exact ⟨rfl, HN.out⟩
    · obtain ⟨gg', ka, na, pa, pra, bda, sa, ta, kb, nb, pb, prb, bdb, sb, tb, hp3, ha, hb, hg⟩ := parts_out hpa
      subst hp3
      obtain ⟨⟨ob1, rfl⟩, ⟨ob2, rfl⟩, ob3, rfl⟩ := val_ptrs hb
      by_cases hn : n2 ≤ 1023
      · rw [if_pos (by simp [isC, cP, hn])] at hw
        obtain ⟨⟨tx3, n3⟩, h3, h4⟩ := bindO hw
        have e2 : fstC (cP a b) = a := rfl
        have e3 : sndC (cP a b) = b := rfl
        rw [e2] at h3
        rw [e3] at h4
        have H3 : Hid (vWr g none a (tx2 ++ sign, n2) = some (tx3, n3)) := h3
        have H4 : Hid (vWr g (some [44]) b (tx3, n3) = some (tx', n')) := h4
        have HLa : Hid (Lies wr a 0 (vCells ka na pa pra bda sa ta)) := ha
        have HLb : Hid (Lies wr b 0 (vCells kb nb (.pointer ob1) prb bdb (.pointer ob2) (.pointer ob3))) := hb
        have HG : Hid (wr.heap[gg']? = some (.cells #[iV ka, iV na, pa, iV pra, iV bda, sa, ta, iV kb, iV nb, (.pointer ob1), iV prb, iV bdb, (.pointer ob2), (.pointer ob3)] 328 (0, 0))) := hg
        have hn' : (n2 : Int) ≤ 1023 := by omega
        clear hw h3 h4 ha hb hg hpa e2 e3 hp2
        go_wp2_with fail
        refine (add_v HVt.out sign (by omega)).mono ?_
        rintro r1 w1 ⟨rfl, hV⟩
        have hFs : Fr (vown q T') wr w1 := hV.choose_spec.2.1
        have hB1 : w1.heap[w.heap.size]? = some (.cells #[iV k2, iV m2, pT gg', iV pr2, iV bd2, x2, y2] 196 (0, 0)) := HVt.out.blkS hFs HB.out (by decide) (by decide)
        have hG1 : w1.heap[gg']? = some (.cells #[iV ka, iV na, pa, iV pra, iV bda, sa, ta, iV kb, iV nb, (.pointer ob1), iV prb, iV bdb, (.pointer ob2), (.pointer ob3)] 328 (0, 0)) := HVt.out.blkS hFs HG.out (by decide) (by decide)
        have HB1 : Hid (w1.heap[w.heap.size]? = some (.cells #[iV k2, iV m2, pT gg', iV pr2, iV bd2, x2, y2] 196 (0, 0))) := hB1
        have HG1 : Hid (w1.heap[gg']? = some (.cells #[iV ka, iV na, pa, iV pra, iV bda, sa, ta, iV kb, iV nb, (.pointer ob1), iV prb, iV bdb, (.pointer ob2), (.pointer ob3)] 328 (0, 0))) := hG1
        have HLa1 : Hid (Lies w1 a 0 (vCells ka na pa pra bda sa ta)) := HLa.out.keep (HVt.out.kp hFs)
        have HLb1 : Hid (Lies w1 b 0 (vCells kb nb (.pointer ob1) prb bdb (.pointer ob2) (.pointer ob3))) := HLb.out.keep (HVt.out.kp hFs)
        have hN1 : Vn q w T w1 (tx2 ++ sign) n2 := hV.cat HF.out HO.out
        obtain ⟨T1, hT1, hF1, hO1⟩ := hN1
        have HT1 : Hid (Vt q w1 T1 (tx2 ++ sign) n2) := hT1
        have HF1 : Hid (Fr (vown q T) w w1) := hF1
        have HO1 : Hid (∀ b, T1.ownBlock = some b → T.ownBlock = some b ∨ w.heap.size ≤ b) := hO1
        obtain ⟨⟨y0, y1, y2', y3, y4, y5, y6⟩, yf⟩ := cells7 hB1
        have yl := blk_lt hB1
        obtain ⟨z0, z1, z2, z3, z4, z5, z6, z7, z8, z9, z10, z11, z12, z13⟩ := pa_cells hG1
        have zl := blk_lt hG1
        have u0 := yf 0; have u1' := yf 1; have u2' := yf 2; have u3' := yf 3; have u4' := yf 4; have u5' := yf 5; have u6' := yf 6
        clear hV hFs hB1 hG1 hT1 hF1 hO1 yf
        go_wp2_with fail
        clear y0 y1 y2' y3 y4 y5 y6 yl z0 z1 z2 z3 z4 z5 z6 z7 z8 z9 z10 z11 z12 z13 zl u0 u1' u2' u3' u4' u5' u6'
        refine (ih g (by omega) _ _ _ _ _ H3.out _ _ _ _ HT1.out HLa1.out).mono ?_
        rintro r2 w2 ⟨rfl, hV⟩
        have hFs : Fr (vown q T1) w1 w2 := hV.choose_spec.2.1
        have hB2 : w2.heap[w.heap.size]? = some (.cells #[iV k2, iV m2, pT gg', iV pr2, iV bd2, x2, y2] 196 (0, 0)) := HT1.out.blkS hFs HB1.out (by decide) (by decide)
        have hG2 : w2.heap[gg']? = some (.cells #[iV ka, iV na, pa, iV pra, iV bda, sa, ta, iV kb, iV nb, (.pointer ob1), iV prb, iV bdb, (.pointer ob2), (.pointer ob3)] 328 (0, 0)) := HT1.out.blkS hFs HG1.out (by decide) (by decide)
        have HB2 : Hid (w2.heap[w.heap.size]? = some (.cells #[iV k2, iV m2, pT gg', iV pr2, iV bd2, x2, y2] 196 (0, 0))) := hB2
        have HG2 : Hid (w2.heap[gg']? = some (.cells #[iV ka, iV na, pa, iV pra, iV bda, sa, ta, iV kb, iV nb, (.pointer ob1), iV prb, iV bdb, (.pointer ob2), (.pointer ob3)] 328 (0, 0))) := hG2
        have HLa2 : Hid (Lies w2 a 0 (vCells ka na pa pra bda sa ta)) := HLa1.out.keep (HT1.out.kp hFs)
        have HLb2 : Hid (Lies w2 b 0 (vCells kb nb (.pointer ob1) prb bdb (.pointer ob2) (.pointer ob3))) := HLb1.out.keep (HT1.out.kp hFs)
        have hN2 : Vn q w T w2 tx3 n3 := hV.cat HF1.out HO1.out
        obtain ⟨T2, hT2, hF2, hO2⟩ := hN2
        have HT2 : Hid (Vt q w2 T2 tx3 n3) := hT2
        have HF2 : Hid (Fr (vown q T) w w2) := hF2
        have HO2 : Hid (∀ b, T2.ownBlock = some b → T.ownBlock = some b ∨ w.heap.size ≤ b) := hO2
        obtain ⟨⟨y0, y1, y2', y3, y4, y5, y6⟩, yf⟩ := cells7 hB2
        have yl := blk_lt hB2
        obtain ⟨z0, z1, z2, z3, z4, z5, z6, z7, z8, z9, z10, z11, z12, z13⟩ := pa_cells hG2
        have zl := blk_lt hG2
        have u0 := yf 0; have u1' := yf 1; have u2' := yf 2; have u3' := yf 3; have u4' := yf 4; have u5' := yf 5; have u6' := yf 6
        clear hV hFs hB2 hG2 hT2 hF2 hO2 yf
        go_wp2_with fail
        have h7 := set7 HB2.out (iV kb) (iV nb) (.pointer ob1) (iV prb) (iV bdb) (.pointer ob2) (.pointer ob3)
        generalize hWW : ((((((w2.setCell ⟨w.heap.size, 0, none⟩ (iV kb)).setCell ⟨w.heap.size, 1, none⟩ (iV nb)).setCell ⟨w.heap.size, 2, none⟩ (.pointer ob1)).setCell ⟨w.heap.size, 3, none⟩ (iV prb)).setCell ⟨w.heap.size, 4, none⟩ (iV bdb)).setCell ⟨w.heap.size, 5, none⟩ (.pointer ob2)).setCell ⟨w.heap.size, 6, none⟩ (.pointer ob3) = WW at h7 ⊢
        have hq7 : q ≠ w.heap.size := by have := HQ.out; omega
        have hT7 : Vt q WW T2 tx3 n3 := HT2.out.frB h7.2 HB2.out (by decide) (by decide) HQ.out
        have hL7 : Lies WW b 0 (vCells kb nb (.pointer ob1) prb bdb (.pointer ob2) (.pointer ob3)) := HLb2.out.keep (h7.2.kp fun b' cur ty hb' hg' => by subst hb'; exact not_vTy HB2.out hg' vTy_value)
        have HC7 : Hid (Lc q w T (tx', n') g [44] WW) := ⟨⟨b, _, T2, _, _, h7.1, hL7, hT7, H4.out, HF2.out.trans h7.2 (fun b hb => .inr (by omega)), HO2.out⟩, by decide⟩
        clear h7 hWW hT7 hL7
        go_wp2_with fail
        go_roundg g
        case measure => omega
        case rel => exact ⟨[44], rfl, by omega, HC7.out⟩
      · rw [if_neg (by simp [hn])] at hw
        injection hw with hw
        injection hw with hw1 hw2
        subst hw1 hw2
        have hn' : ¬ ((n2 : Int) ≤ 1023) := by omega
        have hn'' : (1023 : Int) < (n2 : Int) := by omega
        clear hpa ha hb hg hp2
        go_wp2_with fail
        refine (add_v HVt.out [93] (by simp; omega)).mono ?_
        rintro r5 w5 ⟨rfl, hV⟩
        have HN : Hid (Vn q w T w5 (tx2 ++ [93]) n2) := hV.cat HF.out HO.out
        clear hV
        go_wp2_with fail
        (first | go_end0 | ((try simp only [Exit.inBlock, Exit.then]); refine bodyPost_ret (results_none rfl _ _ _) rfl ?_))
        exact ⟨rfl, HN.out⟩
end
end Go.Proofs.YtklimomeendajaaGreatDoor

/- values: write, Text. -/
namespace Go.Proofs.YtklimomeendajaaGreatDoor
open Go.RowKit

theorem vWr_len : ∀ (f : Nat) (sg : List UInt8) (v : Code) (o x : List UInt8 × Nat), vWr f (some sg) v o = some x → x.1.length ≤ 1000000000
  | 0, _, _, _, _, h => by simp [vWr] at h
  | f + 1, sg, v, o, x, h => by
    unfold vWr at h
    split at h
    · cases h
    rename_i hb
    split at h
    · obtain ⟨y, _, h2⟩ := bindO h
      exact vWr_len f _ _ _ _ h2
    · injection h with h
      subst h
      omega

section
variable {q : Nat} {w w1 w2 w' : World} {T T' : Value} {tx tx' : List UInt8} {n n' : Nat}

theorem Vt.inc (h : Vt q w T tx n) : Vt q (w.setCell ⟨q, 1, none⟩ (iV ((n : Int) + 1))) T tx (n + 1) ∧ Fr (fun b => b = q) w (w.setCell ⟨q, 1, none⟩ (iV ((n : Int) + 1))) := by
  have hF : Fr (fun b => b = q) w (w.setCell ⟨q, 1, none⟩ (iV ((n : Int) + 1))) := (by repeat (first | with_reducible exact Fr.refl _ _ | (with_reducible refine Fr.drew ?_) | (with_reducible refine Fr.drewN ?_ _) | (with_reducible refine Fr.alloc ?_ _) | ((with_reducible refine Fr.setCell ?_ ?_ _); rotate_left; first | exact .inl rfl | exact .inr (Nat.le_refl _) | exact .inl (Nat.le_refl _) | (focus (left; simp; done)) | (focus (left; simp; omega)) | (focus (left; omega)) | (focus (right; simp; done)) | (focus (right; simp; omega)) | (focus (right; omega))) | exact Fr.refl _ _))
  exact ⟨⟨blk_set h.blk rfl, rowKeep hF h.t (fun b hb e => by have := (h.t.lt b hb).1; omega), h.tb.fr hF (fun b hb => by have := h.three; omega), h.three⟩, hF⟩

set_option maxHeartbeats 3200000 in
set_option maxRecDepth 100000 in
theorem vwrite_step (hI : ItOk) (f : Nat) (ih : ∀ g, g ≤ f → WOk g) : WOk (f + 1) := by
  intro v tx n tx' n' hx w q T V h hv
  unfold vWr at hx
  split at hx
  · cases hx
  rename_i hbnd
  have hb1 : tx.length ≤ 1000000000 ∧ n ≤ 1000000000 := by simp only at hbnd; omega
  obtain ⟨k, m, pa, pr, bd, sg, wt, p, x, y, hve, rfl, hpa, hsg, hwt⟩ := val_out hv
  have hvN : vN v = m := by rw [hve]; rfl
  have hvK : vK v = k := by rw [hve]; rfl
  have hvP : vParts v = pa := by rw [hve]; rfl
  rw [hvN, hvK, hvP] at hx
  obtain ⟨W1, hW1⟩ : ∃ W, W = (w.setCell ⟨q, 1, none⟩ (iV ((n : Int) + 1))).alloc (.cells #[iV k, iV m, p, iV pr, iV bd, x, y] 196) := ⟨_, rfl⟩
  obtain ⟨hVA, hFA⟩ := h.inc
  have hFB : Fr (fun _ => False) (w.setCell ⟨q, 1, none⟩ (iV ((n : Int) + 1))) W1 := by rw [hW1]; exact (Fr.refl _ _).alloc _
  have hB1 : W1.heap[w.heap.size]? = some (.cells #[iV k, iV m, p, iV pr, iV bd, x, y] 196 (0, 0)) := by
    have := blk_new (w.setCell ⟨q, 1, none⟩ (iV ((n : Int) + 1))) (.cells #[iV k, iV m, p, iV pr, iV bd, x, y] 196)
    rw [hW1]
    simpa using this
  have hV1 : Vt q W1 T tx (n + 1) := hVA.fr hFB
  have hF01 : Fr (vown q T) w W1 := Fr.trans (O := vown q T) (hFA.mono (fun _ h => .inl (.inl h))) hFB (fun _ h => h.elim)
  have hk1 : Kp w W1 := h.kp hF01
  obtain ⟨⟨-, cq⟩, hfz⟩ := h.cells
  have fq := hfz 1
  have hql := h.lt
  have hnn : IntKind.i64.wrap ((n : Int) + 1) = (n : Int) + 1 := by rw [IntKind.wrap_i64]; omega
  have HV1 : Hid (Vt q W1 T tx (n + 1)) := hV1
  have HF01 : Hid (Fr (vown q T) w W1) := hF01
  have HB1 : Hid (W1.heap[w.heap.size]? = some (.cells #[iV k, iV m, p, iV pr, iV bd, x, y] 196 (0, 0))) := hB1
  have HL1 : Hid (Lies W1 v 0 (vCells k m p pr bd x y)) := hv.keep hk1
  have HP1 : Hid (Lies W1 pa 3 [p]) := hpa.keep hk1
  have HW1 : Hid (W1 = (w.setCell ⟨q, 1, none⟩ (iV ((n : Int) + 1))).alloc (.cells #[iV k, iV m, p, iV pr, iV bd, x, y] 196)) := hW1
  show Calls Tryz.prog 240 #[pT q, .agg #[iV k, iV m, p, iV pr, iV bd, x, y]] w _
  clear h hv hpa hsg hwt hFA hFB hVA hV1 hF01 hB1 hk1 hfz hbnd hvN hvK hvP hW1
  have HVE : Hid (v = vMk k m pa pr bd sg wt) := hve
  clear hve
  by_cases hn : 1023 < n + 1
  · rw [if_pos hn] at hx
    injection hx with hx
    injection hx with hx1 hx2
    subst hx1 hx2
    have hn1 : (1023 : Int) < (n : Int) + 1 := by omega
    go_enter Tryz.func240, Tryz.ntmps240
    go_wp2_with fail
    rw [← HW1.out]
    (first | go_end0 | ((try simp only [Exit.inBlock, Exit.then]); refine bodyPost_ret (results_none rfl _ _ _) rfl ?_))
    exact ⟨rfl, T, HV1.out, HF01.out, fun _ h => .inl h⟩
  rw [if_neg hn] at hx
  have hn1 : ¬ ((1023 : Int) < (n : Int) + 1) := by omega
  have hn2 : (n : Int) + 1 ≤ 1023 := by omega
  have HX : Hid _ := hx
  clear hx
  go_enter Tryz.func240, Tryz.ntmps240
  by_cases k1 : k = 1
  · have hx := HX.out
    rw [if_pos k1] at hx
    subst k1
    split at hx
    case isFalse => cases hx
    case isTrue h64 =>
    injection hx with hx
    injection hx with hx1 hx2
    subst hx1 hx2
    unfold in64 at h64
    simp only [Bool.and_eq_true, decide_eq_true_eq] at h64
    have H64 : Hid _ := h64
    clear h64
    go_wp2_with fail
    rw [← HW1.out]
    refine (hI _ m HV1.out.tb H64.out.1 H64.out.2).mono ?_
    rintro r1 w1 ⟨rfl, hF⟩
    have HV2 : Hid (Vt q w1 T tx (n + 1)) := HV1.out.fr hF
    have HF2 : Hid (Fr (vown q T) w w1) := HF01.out.trans hF (fun _ h => h.elim)
    clear hF
    go_wp2_with fail
    refine (add_v HV2.out (decI m) (by have := decI_len m; omega)).mono ?_
    rintro r2 w2 ⟨rfl, hV⟩
    have HN : Hid (Vn q w T w2 (tx ++ decI m) (n + 1)) := hV.pre HF2.out
    clear hV
    go_wp2_with fail
    (first | go_end0 | ((try simp only [Exit.inBlock, Exit.then]); refine bodyPost_ret (results_none rfl _ _ _) rfl ?_))
    exact ⟨rfl, HN.out⟩
  have hx := HX.out
  rw [if_neg k1] at hx
  by_cases k2 : k = 2
  · rw [if_pos k2] at hx
    subst k2
    injection hx with hx
    injection hx with hx1 hx2
    subst hx1 hx2
    generalize hT : (if m = 1 then [116, 114, 117, 101] else [102, 97, 108, 115, 101] : List UInt8) = tt
    have HT : Hid _ := hT
    clear HX hT
    go_wp2_with fail
    rw [← HW1.out]
    refine (truth_v HV1.out (by omega)).mono ?_
    rintro r2 w2 ⟨rfl, hV⟩
    rw [HT.out] at hV
    have HN : Hid (Vn q w T w2 (tx ++ tt) (n + 1)) := hV.pre HF01.out
    clear hV
    go_wp2_with fail
    (first | go_end0 | ((try simp only [Exit.inBlock, Exit.then]); refine bodyPost_ret (results_none rfl _ _ _) rfl ?_))
    exact ⟨rfl, HN.out⟩
  rw [if_neg k2] at hx
  by_cases k3 : k = 3
  · rw [if_pos k3] at hx
    subst k3
    obtain ⟨⟨tx3, n3⟩, h3, hx⟩ := bindO hx
    split at hx
    · cases hx
    rename_i hl3
    injection hx with hx
    injection hx with hx1 hx2
    subst hx1 hx2
    have H3 : Hid (vWr f (some []) v (tx ++ [91], n + 1) = some (tx3, n3)) := h3
    clear HX h3
    go_wp2_with fail
    rw [← HW1.out]
    refine (list_v (fun g hg => ih g (by omega)) HV1.out HL1.out (by omega) H3.out (by omega)).mono ?_
    rintro r2 w2 ⟨rfl, hV⟩
    have HN : Hid (Vn q w T w2 (tx3 ++ [93]) n3) := hV.pre HF01.out
    clear hV
    go_wp2_with fail
    (first | go_end0 | ((try simp only [Exit.inBlock, Exit.then]); refine bodyPost_ret (results_none rfl _ _ _) rfl ?_))
    exact ⟨rfl, HN.out⟩
  rw [if_neg k3] at hx
  by_cases k4 : k = 4
  · rw [if_pos k4] at hx
    subst k4
    split at hx
    · cases hx
    rename_i hc
    obtain ⟨⟨tx3, n3⟩, h3, hx⟩ := bindO hx
    obtain ⟨⟨tx4, n4⟩, h4, hx⟩ := bindO hx
    split at hx
    · cases hx
    rename_i hl4
    injection hx with hx
    injection hx with hx1 hx2
    subst hx1 hx2
    obtain ⟨a, b, rfl⟩ : ∃ a b, pa = cP a b := by
      rcases pa_out HP1.out with ⟨rfl, -⟩ | ⟨a, b, _, _, _, rfl, -⟩
      · exact absurd rfl hc
      · exact ⟨a, b, rfl⟩
    have H3 : Hid (vWr f none a (tx ++ [40], n + 1) = some (tx3, n3)) := h3
    have H4 : Hid (vWr f none b (tx3 ++ [44], n3) = some (tx4, n4)) := h4
    have hl3 : tx3.length ≤ 1000000000 := by
      have h5 := h4
      rcases f with _ | f
      · simp [vWr] at h5
      unfold vWr at h5
      split at h5
      · cases h5
      rename_i hb
      simp at hb
      omega
    clear HX h3 h4 hc
    go_wp2_with fail
    rw [← HW1.out]
    refine (pair_v (ih f (Nat.le_refl _)) HV1.out HP1.out (by omega) H3.out H4.out hl3 (by omega)).mono ?_
    rintro r2 w2 ⟨rfl, hV⟩
    have HN : Hid (Vn q w T w2 (tx4 ++ [41]) n4) := hV.pre HF01.out
    clear hV
    go_wp2_with fail
    (first | go_end0 | ((try simp only [Exit.inBlock, Exit.then]); refine bodyPost_ret (results_none rfl _ _ _) rfl ?_))
    exact ⟨rfl, HN.out⟩
  rw [if_neg k4] at hx
  by_cases k5 : k = 5
  · rw [if_pos k5] at hx
    subst k5
    injection hx with hx
    injection hx with hx1 hx2
    subst hx1 hx2
    clear HX
    go_wp2_with fail
    rw [← HW1.out]
    refine (add_v HV1.out [102, 110] (by simp; omega)).mono ?_
    rintro r2 w2 ⟨rfl, hV⟩
    have HN : Hid (Vn q w T w2 (tx ++ [102, 110]) (n + 1)) := hV.pre HF01.out
    clear hV
    go_wp2_with fail
    (first | go_end0 | ((try simp only [Exit.inBlock, Exit.then]); refine bodyPost_ret (results_none rfl _ _ _) rfl ?_))
    exact ⟨rfl, HN.out⟩
  rw [if_neg k5] at hx
  by_cases k6 : k = 6
  · rw [if_pos k6] at hx
    subst k6
    injection hx with hx
    injection hx with hx1 hx2
    subst hx1 hx2
    clear HX
    go_wp2_with fail
    rw [← HW1.out]
    refine (add_v HV1.out [99, 111, 110, 116] (by simp; omega)).mono ?_
    rintro r2 w2 ⟨rfl, hV⟩
    have HN : Hid (Vn q w T w2 (tx ++ [99, 111, 110, 116]) (n + 1)) := hV.pre HF01.out
    clear hV
    go_wp2_with fail
    (first | go_end0 | ((try simp only [Exit.inBlock, Exit.then]); refine bodyPost_ret (results_none rfl _ _ _) rfl ?_))
    exact ⟨rfl, HN.out⟩
  rw [if_neg k6] at hx
  injection hx with hx
  injection hx with hx1 hx2
  subst hx1 hx2
  clear HX
  go_wp2_with fail
  rw [← HW1.out]
  (first | go_end0 | ((try simp only [Exit.inBlock, Exit.then]); refine bodyPost_ret (results_none rfl _ _ _) rfl ?_))
  exact ⟨rfl, T, HV1.out, HF01.out, fun _ h => .inl h⟩

theorem vwrite_all (hI : ItOk) (f : Nat) : ∀ g, g ≤ f → WOk g := by
  induction f with
  | zero =>
    intro g hg v tx n tx' n' hx
    obtain rfl : g = 0 := by omega
    simp [vWr] at hx
  | succ f ih =>
    intro g hg
    rcases Nat.lt_or_ge f g with h | h
    · obtain rfl : g = f + 1 := by omega
      exact vwrite_step hI f ih
    · exact ih g h

set_option maxHeartbeats 1600000 in
set_option maxRecDepth 100000 in
theorem text_v (hI : ItOk) {v : Code} {V : List Value} {f : Nat} (hv : Lies w v 0 V) (htb : TB w) (hx : vText f v = some tx) :
    Calls Tryz.prog 209 #[.agg V.toArray] w fun e w' => e = .returned (.string (bz tx)) ∧ Fr (fun _ => False) w w' := by
  unfold vText at hx
  obtain ⟨⟨t1, n1⟩, h1, hx⟩ := bindO hx
  injection hx with hx
  obtain ⟨k, m, pa, pr, bd, sg, wt, p, x, y, -, rfl, -⟩ := val_out hv
  show Calls Tryz.prog 209 #[.agg #[iV k, iV m, p, iV pr, iV bd, x, y]] w _
  obtain ⟨W, hW⟩ : ∃ W, W = (w.alloc (.cells #[iV k, iV m, p, iV pr, iV bd, x, y] 196)).alloc (.cells #[.slice none 0 0, iV 0] 325) := ⟨_, rfl⟩
  have hF0 : Fr (fun _ => False) w W := by rw [hW]; exact ((Fr.refl _ w).alloc _).alloc _
  have hB : W.heap[w.heap.size + 1]? = some (.cells #[.slice none 0 0, iV 0] 325 (0, 0)) := by
    have := blk_new (w.alloc (.cells #[iV k, iV m, p, iV pr, iV bd, x, y] 196)) (.cells #[.slice none 0 0, iV 0] 325)
    rw [hW]
    simpa using this
  have HV : Hid (Vt (w.heap.size + 1) W (.slice none 0 0) [] 0) := ⟨hB, World.ownsRow_nil _ _ _ _, htb.fr hF0 (fun _ h => h.elim), by have := htb.lt; omega⟩
  have HL : Hid (Lies W v 0 (vCells k m p pr bd x y)) := hv.keep (hF0.kp fun _ _ _ h => h.elim)
  have HF0 : Hid (Fr (fun _ => False) w W) := hF0
  have HW : Hid (W = (w.alloc (.cells #[iV k, iV m, p, iV pr, iV bd, x, y] 196)).alloc (.cells #[.slice none 0 0, iV 0] 325)) := hW
  have H1 : Hid (vWr f none v ([], 0) = some (t1, n1)) := h1
  have HX : Hid _ := hx
  clear hv hW hF0 hB h1 hx htb
  go_enter Tryz.func209, Tryz.ntmps209
  go_wp2_with fail
  rw [← HW.out]
  refine (vwrite_all hI f f (Nat.le_refl _) _ _ _ _ _ H1.out _ _ _ _ HV.out HL.out).mono ?_
  rintro r1 w1 ⟨rfl, T1, hV1, hF1, -⟩
  have HF1 : Hid (Fr (fun _ => False) w w1) := HF0.out.trans hF1 (fun b hb => by
    rcases hb with rfl | hb
    · exact .inr (by omega)
    · cases hb)
  obtain ⟨⟨c0, c1⟩, -⟩ := hV1.cells
  have hq1 := hV1.lt
  have HC := run_conv (P := Tryz.prog) (src := 223) (dst := 9) Tryz.underlying223 Tryz.undU8 Tryz.underlying9 hV1.t
  obtain ⟨ta, tc, rfl⟩ := ownsRow_len hV1.t
  have hx := HX.out
  clear hV1 hF1 HX HW H1
  by_cases hn : 1023 < n1
  · rw [if_pos hn] at hx
    subst hx
    have hn' : (1023 : Int) < (n1 : Int) := by omega
    go_wp2_with fail
    go_ret
    exact ⟨rfl, HF1.out⟩
  · rw [if_neg hn] at hx
    subst hx
    have hn' : ¬ ((1023 : Int) < (n1 : Int)) := by omega
    go_wp2_with fail
    go_ret
    exact ⟨rfl, HF1.out⟩
end
end Go.Proofs.YtklimomeendajaaGreatDoor

/- strconv.Itoa: the kit's contract, laid at this program. -/
namespace Go.Proofs.YtklimomeendajaaGreatDoor
open Go.RowKit Go.Shelf

shelf_lay LaysM.n171 Nm 171 at Tryz as itoaLays

theorem itoa_v {w : World} (h : TB w) (n : Int) (h0 : -9223372036854775808 ≤ n) (h1 : n ≤ 9223372036854775807) :
    Calls Tryz.prog 215 #[iV n] w fun e w' => e = .returned (.string (bz (decI n))) ∧ Fr (fun _ => False) w w' := by
  refine (Any.strconv_Itoa itoaLays n h0 h1 w h).mono ?_
  rintro e w' ⟨rfl, k, os, rfl⟩
  refine ⟨by rw [decI_eq n h0 h1], rfl, rfl, rfl, ?_, ?_⟩
  · show w.heap.size ≤ (w.heap ++ os).size
    simp
  · intro k hk _
    show (w.heap ++ os)[k]? = w.heap[k]?
    rw [Array.getElem?_append_left hk]

theorem itOk : ItOk := fun _ n h h0 h1 => itoa_v h n h0 h1
end Go.Proofs.YtklimomeendajaaGreatDoor
