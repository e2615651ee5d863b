import Derived.Test.YtklimomeendajaaGreatDoorMA4
import Derived.Test.YtklimomeendajaaGreatDoorMA3
import Derived.Test.YtklimomeendajaaGreatDoorMA0
set_option linter.unusedVariables false
set_option linter.unusedSimpArgs false
namespace Go.Proofs.YtklimomeendajaaGreatDoor
open Go.RowKit

set_option maxHeartbeats 1600000 in
set_option maxRecDepth 100000 in
theorem w_arm (ws : List (Int × Int)) (R : Nat → RS → Option (RS × Int)) (ih : Ih ws R) (s : RS) (x : RS × Int × Int) (h : tArm ws R s = some x) (r : Nat) (L E P B : Value) (cE : List Value) (w : World) (hR : Rd w r L ws s E P B cE) :
    Calls Tryz.prog 162 #[.pointer (some ⟨r, 0, none⟩)] w fun e w' => e = .returned (.agg #[.int .i64 x.2.1, .int .i64 x.2.2]) ∧ Nx NoX r L ws w E P B cE w' x.1 := by
  have hr : Hid (r < w.heap.size) := (Array.getElem?_eq_some_iff.1 hR.blk).1
  have hC0 := Cx.start hR
  have hl0 := hC0.loc (Nat.le_refl _)
  clear hR
  unfold tArm at h
  obtain ⟨p, hp, h⟩ := Option.bind_eq_some_iff.1 h
  obtain ⟨u, hu, h⟩ := Option.bind_eq_some_iff.1 h
  have Hx : Hid (x = (u.1, p.2, u.2)) := by show x = _; simpa using h.symm
  clear h
  go_enter Tryz.func162, Tryz.ntmps162
  go_wp2_with fail
  have hb0 := blk_new w (.cells #[.int .i64 0, .int .i64 0] 264)
  refine ((hC0.fr (by repeat (first | with_reducible exact Fr.refl _ _ | (with_reducible refine Fr.drew ?_) | (with_reducible refine Fr.drewN ?_ _) | (with_reducible refine Fr.alloc ?_ _) | ((with_reducible refine Fr.setCell ?_ ?_ _); rotate_left; first | exact .inl rfl | exact .inr (Nat.le_refl _) | exact .inl (Nat.le_refl _) | (focus (left; simp; done)) | (focus (left; simp; omega)) | (focus (left; omega)) | (focus (right; simp; done)) | (focus (right; simp; omega)) | (focus (right; omega))) | exact Fr.refl _ _))).call (ih 16 _ _ hp)).mono ?_
  rintro e w1 ⟨rfl, hF1, E1, P1, B1, c1, hC1, hO1⟩
  have hb1 := hl0.blk hF1 hb0
  have hl1 := hl0.next (blk_lt hb0) hO1
  clear hC0 hF1 hO1 hl0 hb0
  go_wp2_with fail
  refine (hC1.want 23).mono ?_
  rintro e w3 ⟨rfl, hF3, E3, P3, B3, c3, hC3, hO3⟩
  have hb3 := hl1.blk hF3 hb1
  have hl3 := hl1.next (blk_lt hb1) hO3
  clear hC1 hF3 hO3 hl1 hb1
  go_wp2_with fail
  refine (hC3.call (ih 0 _ _ hu)).mono ?_
  rintro e w4 ⟨rfl, hF4, E4, P4, B4, c4, hC4, hO4⟩
  have hb4 := hl3.blk hF4 hb3
  have hl4 := hl3.next (blk_lt hb3) hO4
  clear hC3 hF4 hO4 hl3 hb3
  obtain ⟨k0, k1, g0, g1⟩ := cells2 hb4
  have hlt := blk_lt hb4
  clear hb4
  go_wp2_with fail
  refine bodyPost_ret (v := .agg #[.int .i64 p.2, .int .i64 u.2]) (by simp [results, Tryz.results162, go_sem, k0, k1, g0, g1]) rfl ?_
  rw [Hx.out]
  exact ⟨rfl, (hC4.frX hr.out (X := fun b => b = w.heap.size) (by repeat (first | with_reducible exact Fr.refl _ _ | (with_reducible refine Fr.drew ?_) | (with_reducible refine Fr.drewN ?_ _) | (with_reducible refine Fr.alloc ?_ _) | ((with_reducible refine Fr.setCell ?_ ?_ _); rotate_left; first | exact .inl rfl | exact .inr (Nat.le_refl _) | exact .inl (Nat.le_refl _) | (focus (left; simp; done)) | (focus (left; simp; omega)) | (focus (left; omega)) | (focus (right; simp; done)) | (focus (right; simp; omega)) | (focus (right; omega))) | exact Fr.refl _ _)) (by rintro b rfl; exact hl4)).nx⟩

theorem Cx.callA {r : Nat} {L : Value} {ws : List (Int × Int)} {w0 : World} {E0 P0 B0 : Value} {c0 : List Value} {w : World} {E P B : Value} {cE : List Value} {s : RS} {R : Nat → RS → Option (RS × Int)} (hC : Cx r L ws w0 E0 P0 B0 c0 w E P B cE s) (ih : Ih ws R)
    {x : RS × Int × Int} (h : tArm ws R s = some x) :
    Calls Tryz.prog 162 #[.pointer (some ⟨r, 0, none⟩)] w fun e w' => e = .returned (.agg #[.int .i64 x.2.1, .int .i64 x.2.2]) ∧ Fr (own r E P B) w w' ∧ Cxs r L ws w0 E0 P0 B0 c0 w E P B cE w' x.1 :=
  (w_arm ws R ih s x h r L E P B cE w hC.1).mono fun _ _ hh => ⟨hh.1, (let ⟨_, _, _, _, _, hF, _⟩ := hh.2; hF), hC.go hh.2⟩

set_option maxHeartbeats 3200000 in
set_option maxRecDepth 100000 in
theorem w_match (ws : List (Int × Int)) (R : Nat → RS → Option (RS × Int)) (ih : Ih ws R) (n : Nat) (s : RS) (x : RS × Int) (h : tMatch ws R n s = some x) : Ct ws 106 s x := by
  intro r L E P B cE w hR
  have hr : Hid (r < w.heap.size) := (Array.getElem?_eq_some_iff.1 hR.blk).1
  have hC0 := Cx.start hR
  clear hR
  unfold tMatch at h
  obtain ⟨u, hu, h⟩ := Option.bind_eq_some_iff.1 h
  obtain ⟨f, hf, h⟩ := Option.bind_eq_some_iff.1 h
  have H : Hid (tArms ws R n (rWant ws 12 u.1) [] = some f) := hf
  have HU : Hid (R 0 (rWant ws 11 s) = some u) := hu
  have HA : Hid (Go.Proofs.YtklimomeendajaaGreatDoor.add ⟨14, 0, 0, u.2, 0, 0, [], f.2⟩ (rWant ws 13 f.1) = some x) := h
  clear h hf hu
  go_enter Tryz.func106, Tryz.ntmps106
  go_wp2_with fail
  refine (hC0.want 11).mono ?_
  rintro e w1 ⟨rfl, -, E1, P1, B1, c1, hC1, -⟩
  clear hC0
  go_wp2_with fail
  refine (hC1.call (ih 0 _ _ HU.out)).mono ?_
  rintro e w2 ⟨rfl, -, E2, P2, B2, c2, hC2, -⟩
  clear hC1 HU
  go_wp2_with fail
  refine (hC2.want 12).mono ?_
  rintro e w3 ⟨rfl, -, E3, P3, B3, c3, hC3, -⟩
  clear hC2
  go_wp2_with fail
  go_loopg [4, 5] n (fun k fv mv wr => ∃ (sk : RS) (l : List (Int × Int)) (m : Bool) (Ek Pk Bk : Value) (ck : List Value), (m = true → tArms ws R k sk l = some f) ∧ (m = false → (sk, l) = f) ∧ mv = .bool m ∧
    wr.ownsRow w.heap.size 264 2 fv l.length (armCells l) ∧ Loco r w Ek Pk Bk ck fv ∧ Cx r L ws w E P B cE wr Ek Pk Bk ck sk)
  case atStart => exact ⟨_, [], true, _, _, _, _, (fun _ => H.out), (fun h => by cases h), rfl, World.ownsRow_nil _ _ _ _, (fun b h => by cases h), hC3⟩
  case round =>
    obtain ⟨sk, l, m, Ek, Pk, Bk, ck, hk1, hk2, rfl, hrow, hlo, hC⟩ := hrel
    clear hC3 H
    obtain ⟨la, lc, rfl⟩ := ownsRow_len hrow
    cases m with
    | false =>
      have hf := hk2 rfl
      have Hf : Hid (f = (sk, l)) := hf.symm
      clear hk1 hk2 hf
      have HA' : Hid (Go.Proofs.YtklimomeendajaaGreatDoor.add ⟨14, 0, 0, u.2, 0, 0, [], l⟩ (rWant ws 13 sk) = some x) := by have := HA.out; rw [Hf.out] at this; exact this
      clear HA Hf
      go_wp2_with fail
      refine (hC.want 13).mono ?_
      rintro e w1 ⟨rfl, hF1, E1, P1, B1, c1, hC1, hO1⟩
      have hrow1 := hlo.row hrow hF1
      have hlo1 := hlo.next hrow hO1
      clear hC hF1 hO1 hlo hrow
      go_wp2_with fail
      refine (hC1.addL HA'.out ⟨World.ownsRow_nil _ _ _ _, ownsRow_base hrow1 (fun _ _ => Nat.zero_le _), (fun b h => by cases h), (fun b hb => (hlo1 b hb).2.1)⟩ (fun b hb => by rcases hb with h1 | h1; cases h1; exact (hlo1 b h1).1)).mono ?_
      rintro e w3 ⟨rfl, E3, P3, B3, c3, hC3⟩
      clear hC1
      go_wp2_with fail
      go_ret
      exact ⟨rfl, hC3.nx⟩
    | true =>
      have hk := hk1 rfl
      clear hk1 hk2
      cases gk with
      | zero => simp [tArms] at hk
      | succ k =>
        unfold tArms at hk
        obtain ⟨y, hy, hk⟩ := Option.bind_eq_some_iff.1 hk
        split at hk
        case isFalse => cases hk
        case isTrue hlen =>
        have HK : Hid ((if (rTake ws 35 y.1).2 then tArms ws R k (rTake ws 35 y.1).1 (l ++ [y.2]) else some ((rTake ws 35 y.1).1, l ++ [y.2])) = some f) := hk
        clear hk HA
        go_wp2_with fail
        refine (hC.callA ih hy).mono ?_
        rintro e w1 ⟨rfl, hF1, E1, P1, B1, c1, hC1, hO1⟩
        have hrow1 := hlo.row hrow hF1
        have hlo1 := hlo.next hrow hO1
        clear hC hF1 hO1 hlo hrow
        go_wp2_with (at_builtin; refine wpList_app slArm rfl (.tmp 16) (.tmp 18) rfl w.heap.size l.length (armCells l) _ rfl ?own ⟨w1.heap.size + 1, 0, none⟩ 1 1 [.int .i64 y.2.1, .int .i64 y.2.2] rfl rfl ?c1 ?c2 (by decide) ?b1 ?b2 ?b3 ?grow)
        case own => exact (hrow1.alloc _).alloc _
        case c1 => intro j u hj; match j, hj with | 0, hj | 1, hj => simp at hj; subst hj; simp [Addr.add]
        case c2 => intro u hu; simp at hu; rcases hu with rfl | rfl <;> rfl
        case b1 => unfold maxLen; omega
        case b2 => omega
        case b3 => have := hC1.2.1.size; simp; omega
        case grow =>
          intro v' w3 hown hgrow hv g cap hfm
          have hC2 := hC1.fr (w' := (w1.alloc (.cells #[.int .i64 y.2.1, .int .i64 y.2.2] 264)).alloc (.cells #[.int .i64 y.2.1, .int .i64 y.2.2] 264)) (by repeat (first | with_reducible exact Fr.refl _ _ | (with_reducible refine Fr.drew ?_) | (with_reducible refine Fr.drewN ?_ _) | (with_reducible refine Fr.alloc ?_ _) | ((with_reducible refine Fr.setCell ?_ ?_ _); rotate_left; first | exact .inl rfl | exact .inr (Nat.le_refl _) | exact .inl (Nat.le_refl _) | (focus (left; simp; done)) | (focus (left; simp; omega)) | (focus (left; omega)) | (focus (right; simp; done)) | (focus (right; simp; omega)) | (focus (right; omega))) | exact Fr.refl _ _))
          have hC3 := hC2.grown hr.out hlo1 hgrow
          have hlo3 := hlo1.grown hC2 (by simpa using hv)
          clear hC1 hC2 hgrow hv hrow1 hlo1
          subst hfm
          go_wp2_with fail
          refine (hC3.take 35).mono ?_
          rintro e w4 ⟨rfl, hF4, E4, P4, B4, c4, hC4, hO4⟩
          have hrow4 := hlo3.row hown hF4
          have hlo4 := hlo3.next hown hO4
          clear hC3 hF4 hO4 hlo3 hown
          go_wp2_with fail
          go_roundg k
          case measure => omega
          case rel =>
            refine ⟨(rTake ws 35 y.1).1, l ++ [y.2], (rTake ws 35 y.1).2, _, _, _, _, ?_, ?_, rfl, ?_, hlo4, hC4⟩
            · intro hm
              have := HK.out
              rw [if_pos hm] at this
              exact this
            · intro hm
              have := HK.out
              rw [if_neg (by simp [hm])] at this
              exact Option.some.inj this
            · simpa [armCells] using hrow4

end Go.Proofs.YtklimomeendajaaGreatDoor

namespace Go.Proofs.YtklimomeendajaaGreatDoor
open Go.RowKit

theorem rdr_ih (ws : List (Int × Int)) : ∀ n, Ih ws (rdr ws n)
  | 0 => fun _ _ _ h => by simp [rdr] at h
  | n + 1 => by
    have ih := rdr_ih ws n
    intro tag s x h
    match tag, h with
    | 0, h => exact w_exp ws _ ih s x h
    | 1, h => exact w_let ws _ ih s x h
    | 2, h => exact w_fn ws _ ih s x h
    | 3, h => exact w_choice ws _ ih s x h
    | 4, h => exact w_match ws _ ih n s x h
    | 5, h => exact w_try ws _ ih s x h
    | 6, h => exact w_cmp ws _ ih s x h
    | 7, h => exact w_letRec ws _ ih n s x h
    | 8, h => exact w_cons ws _ ih s x h
    | 9, h => exact w_sum ws _ ih n s x h
    | 10, h => exact w_prod ws _ ih n s x h
    | 11, h => exact w_app ws _ ih s x h
    | 12, h => exact w_throw ws _ ih s x h
    | 13, h => exact w_call ws _ ih n s x h
    | 14, h => exact w_atom ws _ ih s x h
    | 15, h => exact w_brackets ws _ ih s x h
    | 16, h => exact w_pat ws _ ih s x h
    | 17, h => exact w_simple ws _ ih s x h
    | 18, h => exact w_patBrackets ws _ ih s x h
    | _ + 19, h => simp [rdr] at h

end Go.Proofs.YtklimomeendajaaGreatDoor

namespace Go.Proofs.YtklimomeendajaaGreatDoor
open Go.RowKit

/-- What was read, as it lies in memory. -/
structure Tr (w : World) (s : RS) (E P B : Value) (cE : List Value) : Prop where
  e : w.ownsRow 0 162 8 E s.exps.length cE
  eAt : ExpsAt w (fun _ => False) s.exps cE
  p : w.ownsRow 0 315 5 P s.pats.length (patCells s.pats)
  b : w.ownsRow 0 3 1 B s.bnds.length (s.bnds.map (.int .i64))

theorem ExpsAt.weak {w : World} {O : Nat → Prop} : ∀ (l : List EX) (c : List Value), ExpsAt w O l c → ExpsAt w (fun _ => False) l c
  | [], _, h => h
  | _ :: l, _, ⟨vf, va, c', hc, h1, h2⟩ => ⟨vf, va, c', hc, ⟨h1.f, h1.a, fun _ _ h => h, fun _ _ h => h⟩, ExpsAt.weak l c' h2⟩

theorem Tr.keep {w w' : World} {s : RS} {E P B : Value} {cE : List Value} (h : Tr w s E P B cE) (hb : ∀ b, (E.ownBlock = some b ∨ P.ownBlock = some b ∨ B.ownBlock = some b ∨ Refs cE b) → w'.heap[b]? = w.heap[b]?) : Tr w' s E P B cE :=
  ⟨ownsRow_block h.e fun b hh => hb b (.inl hh), ExpsAt.keep _ _ (fun b hh => hb b (.inr (.inr (.inr hh)))) h.eAt, ownsRow_block h.p fun b hh => hb b (.inr (.inl hh)), ownsRow_block h.b fun b hh => hb b (.inr (.inr (.inl hh)))⟩

theorem cells4 {w : World} {l : Nat} {a b c d : Value} {t : TypeId} (h : w.heap[l]? = some (.cells #[a, b, c, d] t (0, 0))) :
    (w.cell? ⟨l, 0, none⟩ = some a ∧ w.cell? ⟨l, 1, none⟩ = some b ∧ w.cell? ⟨l, 2, none⟩ = some c ∧ w.cell? ⟨l, 3, none⟩ = some d) ∧ w.frozen? ⟨l, 0, none⟩ = false ∧ w.frozen? ⟨l, 1, none⟩ = false ∧ w.frozen? ⟨l, 2, none⟩ = false ∧ w.frozen? ⟨l, 3, none⟩ = false := by
  simp [World.cell?, World.frozen?, h]

/-- The reader, laid out. -/
theorem Rd.made {w : World} {L : Value} {ws : List (Int × Int)} (hL : w.ownsRow 0 205 2 L ws.length (wordCells ws)) (hlen : ws.length ≤ 240) (o : Obj) :
    Rd ((w.alloc o).alloc (.cells #[L, .int .i64 0, .bool false, .slice none 0 0, .slice none 0 0, .int .i64 0, .slice none 0 0] 144)) (w.heap.size + 1) L ws rs0 (.slice none 0 0) (.slice none 0 0) (.slice none 0 0) [] := by
  refine ⟨?_, World.ownsRow_nil _ _ _ _, rfl, World.ownsRow_nil _ _ _ _, World.ownsRow_nil _ _ _ _, (fun b h => by cases h), (fun b h => by cases h), (fun b h => by cases h), (hL.alloc _).alloc _, fun b h => ?_, Nat.zero_le _, hlen⟩
  · have := blk_new (w.alloc o) (.cells #[L, .int .i64 0, .bool false, .slice none 0 0, .slice none 0 0, .int .i64 0, .slice none 0 0] 144)
    simpa [rs0] using this
  · have := (hL.lt b h).2; omega

set_option maxHeartbeats 3200000 in
set_option maxRecDepth 100000 in
theorem read_any (ws : List (Int × Int)) (n : Nat) (x : RS × Int) (h : rdr ws n 0 rs0 = some x) (L : Value) (w : World) (hL : w.ownsRow 0 205 2 L ws.length (wordCells ws)) (hlen : ws.length ≤ 240) :
    Calls Tryz.prog 38 #[L] w fun e w' => Fr (fun _ => False) w w' ∧
      ((rGood ws x.1 = false ∧ e = .returned (.tuple #[.agg #[.slice none 0 0, .slice none 0 0, .int .i64 0, .slice none 0 0], .bool false])) ∨
       (rGood ws x.1 = true ∧ ∃ E P B cE, e = .returned (.tuple #[.agg #[E, P, .int .i64 x.2, B], .bool true]) ∧ Tr w' x.1 E P B cE)) := by
  have hC0 := Cx.start (Rd.made hL hlen (.cells #[.slice none 0 0, .slice none 0 0, .int .i64 0, .slice none 0 0] 74))
  obtain ⟨la, lc, rfl⟩ := ownsRow_len hL
  have hb0 : ((w.alloc (.cells #[.slice none 0 0, .slice none 0 0, .int .i64 0, .slice none 0 0] 74)).alloc (.cells #[.slice la ws.length lc, .int .i64 0, .bool false, .slice none 0 0, .slice none 0 0, .int .i64 0, .slice none 0 0] 144)).heap[w.heap.size]? = some (.cells #[.slice none 0 0, .slice none 0 0, .int .i64 0, .slice none 0 0] 74 (0, 0)) := by
    rw [Below.heap_alloc _ _ _ (by simp), blk_new]
  have H : Hid (Ct ws (fnOf 0) rs0 x) := rdr_ih ws n 0 rs0 x h
  clear h hL
  go_enter Tryz.func38, Tryz.ntmps38
  go_wp2_with fail
  refine (hC0.call (f := fnOf 0) H.out).mono ?_
  rintro e w1 ⟨rfl, hF1, E1, P1, B1, c1, hC1, -⟩
  clear hC0 H
  have hb1 : w1.heap[w.heap.size]? = some (.cells #[.slice none 0 0, .slice none 0 0, .int .i64 0, .slice none 0 0] 74 (0, 0)) := by
    refine (hF1.block _ (by simp; omega) ?_).trans hb0
    rintro (h | h | h | h)
    · omega
    all_goals cases h
  have HF : Hid (Fr (fun _ => False) w w1) := by
    refine Fr.trans (O' := own (w.heap.size + 1) (.slice none 0 0) (.slice none 0 0) (.slice none 0 0)) (((Fr.refl _ w).alloc _).alloc _) hF1 ?_
    rintro i (h | h | h | h)
    · right; omega
    all_goals cases h
  have hR1 := hC1.1
  have hge : ∀ b, (E1.ownBlock = some b ∨ P1.ownBlock = some b ∨ B1.ownBlock = some b ∨ Refs c1 b) → w.heap.size + 2 ≤ b := by
    rintro b (h | h | h | h)
    · exact (hR1.e.lt b h).1
    · exact (hR1.p.lt b h).1
    · exact (hR1.b.lt b h).1
    · rcases hC1.2.2.2 b h with h1 | h1 | h1
      · obtain ⟨v, hv, _⟩ := h1; cases hv
      · simpa using h1
      · exact h1.elim
  have HT : Hid (∀ w', Fr (fun b => b < w.heap.size + 2) w1 w' → Tr w' x.1 E1 P1 B1 c1) := by
    intro w' hw
    refine Tr.keep (w := w1) ⟨ownsRow_base hR1.e (fun _ _ => Nat.zero_le _), ExpsAt.weak _ _ hR1.eAt, ownsRow_base hR1.p (fun _ _ => Nat.zero_le _), ownsRow_base hR1.b (fun _ _ => Nat.zero_le _)⟩ ?_
    intro b hb
    have hlt : b < w1.heap.size := by
      rcases hb with h | h | h | h
      · exact (hR1.e.lt b h).2
      · exact (hR1.p.lt b h).2
      · exact (hR1.b.lt b h).2
      · exact (ExpsAt.lt _ _ hR1.eAt b h).1
    exact hw.block b hlt (by have := hge b hb; omega)
  obtain ⟨hr, k0, k1, k2, k3, k4, k6, hfz⟩ := hR1.cells
  have k5 : w1.cell? ⟨w.heap.size + 1, 5, none⟩ = some (.int .i64 0) := by simp [World.cell?, hR1.blk]
  have f5 := hfz 5
  have hpos := hR1.pos
  obtain ⟨⟨m0, m1, m2, m3⟩, g0, g1, g2, g3⟩ := cells4 hb1
  have hl1 := blk_lt hb1
  obtain ⟨ea, ec, rfl⟩ := ownsRow_len hR1.e
  obtain ⟨pa, pc, rfl⟩ := ownsRow_len hR1.p
  obtain ⟨ba, bc, rfl⟩ := ownsRow_len hR1.b
  clear hC1 hR1 hF1 hge hb0 hfz hb1
  cases hbad : x.1.bad with
  | true =>
    have HG : Hid (rGood ws x.1 = false) := by show _ = _; simp [rGood, hbad]
    go_wp2_with fail
    refine bodyPost_ret (v := .tuple #[.agg #[.slice none 0 0, .slice none 0 0, .int .i64 0, .slice none 0 0], .bool false]) (by simp [results, Tryz.results38, go_sem, m0, m1, m2, m3, g0, g1, g2, g3]) rfl ⟨?_, Or.inl ⟨HG.out, rfl⟩⟩
    repeat (first | exact HF.out | (refine Fr.setCell ?_ (by right; show w.heap.size ≤ _; simp) _))
  | false =>
    by_cases hlt : x.1.pos < ws.length
    · have HG : Hid (rGood ws x.1 = false) := by show _ = _; simp [rGood, hlt]
      go_wp2_with fail
      refine bodyPost_ret (v := .tuple #[.agg #[.slice none 0 0, .slice none 0 0, .int .i64 0, .slice none 0 0], .bool false]) (by simp [results, Tryz.results38, go_sem, m0, m1, m2, m3, g0, g1, g2, g3]) rfl ⟨?_, Or.inl ⟨HG.out, rfl⟩⟩
      repeat (first | exact HF.out | (refine Fr.setCell ?_ (by right; show w.heap.size ≤ _; simp) _))
    · have HG : Hid (rGood ws x.1 = true) := by show _ = _; simp [rGood, hlt, hbad]
      go_wp2_with fail
      refine bodyPost_ret (v := .tuple #[.agg #[.slice ea x.1.exps.length ec, .slice pa x.1.pats.length pc, .int .i64 x.2, .slice ba x.1.bnds.length bc], .bool true]) (by simp [results, Tryz.results38, go_sem, m0, m1, m2, m3, g0, g1, g2, g3]) rfl ⟨?_, Or.inr ⟨HG.out, _, _, _, c1, rfl, HT.out _ ?_⟩⟩
      · repeat (first | exact HF.out | (refine Fr.setCell ?_ (by right; show w.heap.size ≤ _; simp) _))
      · repeat (first | exact Fr.refl _ _ | (refine Fr.setCell ?_ (by left; show _ < w.heap.size + 2; simp) _))

end Go.Proofs.YtklimomeendajaaGreatDoor
