import Derived.Deep.LoopGhost
import Derived.Test.YtklimomeendajaaGreatDoorMB1
set_option linter.unusedVariables false
set_option linter.unusedSimpArgs false
/- walk. -/
namespace Go.Proofs.YtklimomeendajaaGreatDoor
open Go.RowKit

theorem Tryz.infoTy : (Tryz.prog.info? 155).map (fun i => (i.zero, i.size, i.bytes)) = some (some (.int .i32 0), 1, 4) := by kernel_rfl
theorem slTy : SlT Tryz.prog 152 155 (.int .i32 0) 1 4 := ⟨Tryz.underlying152, by
  cases hi : Tryz.prog.info? 155 with
  | none => have := Tryz.infoTy; rw [hi] at this; cases this
  | some i =>
    have := Tryz.infoTy
    rw [hi] at this
    simp only [Option.map_some, Option.some.injEq, Prod.mk.injEq] at this
    exact ⟨i, rfl, this.1, this.2.1, this.2.2⟩, rfl, by decide⟩

def tyC (l : List Int) : List Value := l.map (.int .i32)

/-- The top of a row of types. -/
theorem tyTop {w : World} {base : Nat} {dv : Value} {t : Int} {due : List Int} (h : w.ownsRow base 155 1 dv (t :: due).length (tyC (t :: due).reverse)) :
    ∃ g cap, dv = .slice (some ⟨g, 0, none⟩) (due.length + 1) cap ∧ w.cell? ⟨g, due.length, none⟩ = some (.int .i32 t) ∧ g < w.heap.size ∧ base ≤ g ∧ due.length + 1 ≤ cap ∧ due.length + 1 ≤ maxLen ∧
      w.ownsRow base 155 1 (.slice (some ⟨g, 0, none⟩) due.length cap) due.length (tyC due.reverse) := by
  have h' := h
  have e : tyC (t :: due).reverse = tyC due.reverse ++ [.int .i32 t] := by simp [tyC]
  rcases h.2 with ⟨_, h0⟩ | ⟨g, cap, cur, rfl, hb, hg, hc, hm, hcs, ht⟩
  · simp at h0
  · have hl : (tyC due.reverse).length = due.length := by simp [tyC]
    refine ⟨g, cap, by simp, ?_, (h.lt g rfl).2, hb, by simpa using hc, by simpa using Nat.le_trans hc hm, ?_⟩
    · rw [World.ownsRow.cellAt h' _ (by simp), e, List.getElem?_append_right (by omega), hl]; simp
    · have := ownsRow_cut h' (k := due.length) (by simp)
      rw [e, Nat.mul_one, List.take_append_of_le_length (by omega), ← hl, List.take_length] at this
      rw [hl] at this
      exact this

theorem xParts_len {n : Nat} {s s' : SX} {t : Int} {l : List Int} (h : xParts n s t = some (s', l)) : l.length ≤ 2 := by
  unfold xParts at h
  obtain ⟨x, -, h⟩ := bindO h
  split at h
  · obtain ⟨y, -, h⟩ := bindO h
    injection h with h
    injection h with _ h
    subst h
    simp
  split at h
  · obtain ⟨y, -, h⟩ := bindO h
    obtain ⟨y, -, h⟩ := bindO h
    obtain ⟨y, -, h⟩ := bindO h
    injection h with h
    injection h with _ h
    subst h
    simp
  · injection h with h
    injection h with _ h
    subst h
    simp

/-- A cell of the two parts. -/
theorem cellP {w : World} {k : Nat} {l : List Int} {t : TypeId} (h : w.heap[k]? = some (.cells #[.int .i32 (l[0]?.getD 0), .int .i32 (l[1]?.getD 0)] t (0, 0))) {j : Nat} (hj : j < 2) : w.cell? ⟨k, j, none⟩ = some (.int .i32 (l.getD j 0)) := by
  match j, hj with
  | 0, _ => simp [World.cell?, h]
  | 1, _ => simp [World.cell?, h]

theorem drop_cons {l : List Int} {j : Nat} (hj : j < l.length) : l.drop j = l.getD j 0 :: l.drop (j + 1) := by
  rw [List.drop_eq_getElem_cons hj]
  simp [hj]

section
variable {w w' w1 w2 : World} {f o : Nat} {ty : TypeId} {c : Array Value} {s s' s2 : SX} {G G' : Value} {bk bk' : List Nat} {t : Int} {x x' : ND}

/-- The due row and the done row of a walk. -/
structure Wr (w wr : World) (dv ev : Value) (due done : List Int) : Prop where
  d : wr.ownsRow w.heap.size 155 1 dv due.length (tyC due.reverse)
  e : wr.ownsRow w.heap.size 155 1 ev done.length (tyC done)
  ne : ∀ b, dv.ownBlock = some b → ev.ownBlock ≠ some b

theorem Wr.kp {W W' : World} {dv ev : Value} {due done : List Int} (h : So w f o ty c s G bk) (hw : Wr w W dv ev due done) (hF : Fr (fun b => b ∈ bk) W W') : Wr w W' dv ev due done := ⟨h.kpR hF hw.d, h.kpR hF hw.e, hw.ne⟩

theorem Wr.fr {W W' : World} {dv ev : Value} {due done : List Int} (hw : Wr w W dv ev due done) (hF : Fr (fun _ => False) W W') : Wr w W' dv ev due done :=
  ⟨ownsRow_block hw.d fun b hb => hF.block b (hw.d.lt b hb).2 id, ownsRow_block hw.e fun b hb => hF.block b (hw.e.lt b hb).2 id, hw.ne⟩

theorem Wr.push {W W' : World} {dv ev v' : Value} {due done : List Int} {u : Int} (hw : Wr w W dv ev due done) (hg : W.grownBy W' ev.ownBlock) (hr : W'.ownsRow w.heap.size 155 1 v' (done.length + 1) (tyC done ++ [.int .i32 u])) (hv : v'.ownBlock = ev.ownBlock ∨ v'.ownBlock = some W.heap.size) : Wr w W' dv v' due (done ++ [u]) := by
  refine ⟨ownsRow_block hw.d fun b hb => hg.block b (hw.d.lt b hb).2 (fun e => hw.ne b hb e.symm), ?_, fun b hb hb' => ?_⟩
  · have e : tyC (done ++ [u]) = tyC done ++ [.int .i32 u] := by simp [tyC]
    rw [e, List.length_append]
    exact hr
  · rcases hv with h | h
    · exact hw.ne b hb (h ▸ hb')
    · rw [h] at hb'; injection hb' with hb'; have := (hw.d.lt b hb).2; omega

theorem Wr.pushD {W W' : World} {dv ev v' : Value} {due done : List Int} {u : Int} (hw : Wr w W dv ev due done) (hg : W.grownBy W' dv.ownBlock) (hr : W'.ownsRow w.heap.size 155 1 v' (due.length + 1) (tyC due.reverse ++ [.int .i32 u])) (hv : v'.ownBlock = dv.ownBlock ∨ v'.ownBlock = some W.heap.size) : Wr w W' v' ev (u :: due) done := by
  refine ⟨?_, ownsRow_block hw.e fun b hb => hg.block b (hw.e.lt b hb).2 (fun e => hw.ne b e.symm hb), fun b hb hb' => ?_⟩
  · have e : tyC (u :: due).reverse = tyC due.reverse ++ [.int .i32 u] := by simp [tyC]
    rw [e]
    exact hr
  · rcases hv with h | h
    · exact hw.ne b (h ▸ hb) hb'
    · rw [h] at hb; injection hb with hb; have := (hw.e.lt b hb').2; omega

set_option maxHeartbeats 600000 in
set_option maxRecDepth 100000 in
theorem walk_so (h : So w f o ty c s G bk) {n : Nat} {done : List Int} {ok : Bool} (hx : xWalk n s t = some (s', done, ok)) :
    Calls Tryz.prog 121 #[.pointer (some ⟨f, o, none⟩), .int .i32 t] w fun e w' => ∃ D, e = .returned (.tuple #[D, .bool ok]) ∧ w'.ownsRow w.heap.size 155 1 D done.length (tyC done) ∧ So w' f o ty c s' G bk ∧ Fr (fun b => b ∈ bk) w w' := by
  unfold xWalk at hx
  obtain ⟨⟨s1, r⟩, hf, hx⟩ := bindO hx
  have HS : Hid (So w f o ty c s G bk) := h
  have HF : Hid (xFind n s t = some (s1, r)) := hf
  obtain ⟨-, -, c2, -⟩ := h.cells
  have hfl := h.flt
  have w0 := h.w0
  have w1' := h.w1
  have HX : Hid (xWalkL (2 * s.wk) n s1 [r] [] true = some (s', done, ok)) := hx
  clear h hf hx
  go_enter Tryz.func121, Tryz.ntmps121
  go_wp2_with fail
  refine (find_so HS.out HF.out).mono ?_
  rintro r1 w1 ⟨rfl, hS1, hF1⟩
  have HS1 : Hid (So w1 f o ty c s1 G bk) := hS1
  have HF1 : Hid (Fr (fun b => b ∈ bk) w w1) := hF1
  have hsz := hF1.size
  clear hS1 hF1
  go_wp2_with fail
  generalize 2 * s.wk = op at *
  clear c2 w0 w1'
  go_loopg [9, 10, 11] n (fun k dv ev bv wr => ∃ (due dn : List Int) (sk : SX) (ok1 : Bool), bv = .bool ok1 ∧ Wr w wr dv ev due dn ∧ xWalkL op k sk due dn ok1 = some (s', done, ok) ∧ So wr f o ty c sk G bk ∧ Fr (fun b => b ∈ bk) w wr)
  case atStart =>
    refine ⟨[r], [], s1, true, rfl, ⟨⟨rfl, .inr ⟨w1.heap.size, 1, #[.int .i32 r], rfl, hsz, blk_new w1 _, Nat.le_refl _, by decide, rfl, rfl⟩⟩, World.ownsRow_nil _ _ _ _, fun b _ h => by cases h⟩, HX.out, HS1.out.fr (by repeat (first | with_reducible exact Fr.refl _ _ | (with_reducible refine Fr.drew ?_) | (with_reducible refine Fr.drewN ?_ _) | (with_reducible refine Fr.alloc ?_ _) | ((with_reducible refine Fr.setCell ?_ ?_ _); rotate_left; first | exact .inl rfl | exact .inr (Nat.le_refl _) | exact .inl (Nat.le_refl _) | (focus (left; simp; done)) | (focus (left; simp; omega)) | (focus (left; omega)) | (focus (right; simp; done)) | (focus (right; simp; omega)) | (focus (right; omega))) | exact Fr.refl _ _)), HF1.out.alloc _⟩
  case round =>
    obtain ⟨due, dn, sk, ok1, rfl, hW, hk, hS, hF⟩ := hrel
    clear HX HS1 HF1
    cases gk with
    | zero => cases hk
    | succ k =>
    cases due with
    | nil =>
      rw [xWalkL] at hk
      injection hk with hk
      injection hk with e1 e2
      injection e2 with e2 e3
      subst e1 e2 e3
      obtain ⟨da, dc, rfl⟩ := ownsRow_len hW.d
      obtain ⟨ea, ec, rfl⟩ := ownsRow_len hW.e
      have HE : Hid (wr.ownsRow w.heap.size 155 1 (.slice ea dn.length ec) dn.length (tyC dn) ∧ So wr f o ty c sk G bk ∧ Fr (fun b => b ∈ bk) w wr) := ⟨hW.e, hS, hF⟩
      clear hS hF hW
      go_wp2_with fail
      go_ret2
      exact ⟨_, rfl, HE.out⟩
    | cons u due =>
    rw [xWalkL] at hk
    by_cases hbig : 1000000000000 < due.length + dn.length
    · rw [if_pos hbig] at hk; cases hk
    rw [if_neg hbig] at hk
    obtain ⟨x, hxu, hk⟩ := bindO hk
    obtain ⟨g, cap, rfl, q0, hg, hgb, hcap, hmax, hrow'⟩ := tyTop hW.d
    obtain ⟨ea, ec, rfl⟩ := ownsRow_len hW.e
    obtain ⟨b, m, ha⟩ := adr_ex bk u
    obtain ⟨hb, -, -, -, -, d4, -, hfz⟩ := hS.six hxu ha
    have f4 := hfz (m + 4)
    have HSk : Hid (So wr f o ty c sk G bk) := hS
    have HFk : Hid (Fr (fun b => b ∈ bk) w wr) := hF
    have HXu : Hid (xAt sk u = some x) := hxu
    have HAd : Hid (adr bk u = ⟨b, m, none⟩) := ha
    have HMb : Hid (b ∈ bk) := adr_mem hS hxu ha
    have HWk : Hid (Wr w wr (.slice (some ⟨g, 0, none⟩) (due.length + 1) cap) (.slice ea dn.length ec) (u :: due) dn) := hW
    have HWd : Hid (Wr w wr (.slice (some ⟨g, 0, none⟩) due.length cap) (.slice ea dn.length ec) due dn) := ⟨hrow', hW.e, hW.ne⟩
    have hd : due.length < 9223372036854775807 := by unfold maxLen at hmax; omega
    have hdn : dn.length ≤ 1000000000000 := by omega
    have hge := hF.size
    clear hrow' hS hF hfz hxu ha hW
    by_cases hc1 : x.mrk = op + 1
    · rw [if_pos hc1] at hk
      have HK : Hid _ := hk
      rw [hc1] at d4
      clear hk hc1
      go_wp2_with fail
      refine (at_so HSk.out HXu.out HAd.out).mono ?_
      rintro e5 w5 ⟨rfl, rfl⟩
      go_wp2_with fail
      go_roundg k
      case measure => omega
      case rel => exact ⟨due, dn, sk, ok1, rfl, HWd.out, HK.out, HSk.out, HFk.out⟩
    rw [if_neg hc1] at hk
    by_cases hc2 : x.mrk = op
    · rw [if_pos hc2] at hk
      have HK : Hid _ := hk
      have HP : Hid (So (wr.setCell ⟨b, m + 4, none⟩ (.int .i32 (op + 1))) f o ty c (xSet sk u { x with mrk := op + 1 }) G bk) := HSk.out.put HXu.out HAd.out (by decide) (ndc_mrk _)
      have HF2 : Hid (Fr (fun b => b ∈ bk) w (wr.setCell ⟨b, m + 4, none⟩ (.int .i32 (op + 1)))) := HFk.out.setCell (.inl HMb.out) _
      have HW2 : Hid (Wr w (wr.setCell ⟨b, m + 4, none⟩ (.int .i32 (op + 1))) (.slice (some ⟨g, 0, none⟩) due.length cap) (.slice ea dn.length ec) due dn) := HWd.out.kp HS.out ((Fr.refl _ wr).setCell (.inl HMb.out) _)
      have hE2 := HW2.out.e.alloc (.cells #[.int .i32 u] 155)
      rw [hc2] at d4
      clear hk hc2 hc1 HWd HWk HFk
      go_wp2_with fail
      refine (at_so HSk.out HXu.out HAd.out).mono ?_
      rintro e5 w5 ⟨rfl, rfl⟩
      go_wp2_with (at_builtin; refine wpList_app slTy rfl (.tmp 70) (.tmp 72) rfl w.heap.size dn.length (tyC dn) _ rfl hE2 ⟨w5.heap.size, 0, none⟩ 1 1 [.int .i32 u] rfl rfl ?c1 ?c2 (by decide) ?b1 ?b2 ?b3 ?grow)
      case c1 => intro j v hj; exact cells_new _ (by simp) hj
      case c2 => intro v hv; simp at hv; rcases hv with rfl; rfl
      case b1 => unfold maxLen; omega
      case b2 => omega
      case b3 => simp; omega
      case grow =>
        intro v' w9 hown hgrow hv g' cap' hfm
        subst hfm
        have HW9 : Hid (Wr w w9 (.slice (some ⟨g, 0, none⟩) due.length cap) (.slice (some ⟨g', 0, none⟩) (dn.length + 1) cap') due (dn ++ [u])) := (HW2.out.fr ((Fr.refl _ _).alloc _)).push hgrow hown (by simpa using hv)
        have HG : Hid (∀ b, (Value.slice ea dn.length ec).ownBlock = some b → w.heap.size ≤ b) := fun b hb => (HW2.out.e.lt b hb).1
        have HS9 : Hid (So w9 f o ty c (xSet sk u { x with mrk := op + 1 }) G bk) := HS.out.grow (HP.out.fr (by repeat (first | with_reducible exact Fr.refl _ _ | (with_reducible refine Fr.drew ?_) | (with_reducible refine Fr.drewN ?_ _) | (with_reducible refine Fr.alloc ?_ _) | ((with_reducible refine Fr.setCell ?_ ?_ _); rotate_left; first | exact .inl rfl | exact .inr (Nat.le_refl _) | exact .inl (Nat.le_refl _) | (focus (left; simp; done)) | (focus (left; simp; omega)) | (focus (left; omega)) | (focus (right; simp; done)) | (focus (right; simp; omega)) | (focus (right; omega))) | exact Fr.refl _ _))) hgrow HG.out
        have HF9 : Hid (Fr (fun b => b ∈ bk) w w9) := (HF2.out.alloc _).grown hgrow (fun b hb => .inr (HG.out b hb))
        clear hown hgrow hv hE2
        go_wp2_with fail
        go_roundg k
        case measure => omega
        case rel => exact ⟨due, dn ++ [u], _, ok1, rfl, HW9.out, HK.out, HS9.out, HF9.out⟩
    rw [if_neg hc2] at hk
    obtain ⟨⟨sp, l⟩, hp, hk⟩ := bindO hk
    obtain ⟨⟨due2, ok2⟩, hq, hk⟩ := bindO hk
    have HP : Hid (So (wr.setCell ⟨b, m + 4, none⟩ (.int .i32 op)) f o ty c (xSet sk u { x with mrk := op }) G bk) := HSk.out.put HXu.out HAd.out (by decide) (ndc_mrk _)
    have HF2 : Hid (Fr (fun b => b ∈ bk) w (wr.setCell ⟨b, m + 4, none⟩ (.int .i32 op))) := HFk.out.setCell (.inl HMb.out) _
    have HW2 : Hid (Wr w (wr.setCell ⟨b, m + 4, none⟩ (.int .i32 op)) (.slice (some ⟨g, 0, none⟩) (due.length + 1) cap) (.slice ea dn.length ec) (u :: due) dn) := HWk.out.kp HS.out ((Fr.refl _ wr).setCell (.inl HMb.out) _)
    have HPa : Hid (xParts k (xSet sk u { x with mrk := op }) u = some (sp, l)) := hp
    have HQ : Hid (xDue sp op l (u :: due) ok1 = some (due2, ok2)) := hq
    have HK : Hid (xWalkL op k sp due2 dn ok2 = some (s', done, ok)) := hk
    have m1 : (x.mrk == op + 1) = false := by simpa using hc1
    have m2 : (x.mrk == op) = false := by simpa using hc2
    generalize x.mrk = xm at d4 m1 m2
    have hge2 := HF2.out.size
    clear hk hc2 hc1 HWd HWk HFk hp hq
    go_wp2_with fail
    refine (at_so HSk.out HXu.out HAd.out).mono ?_
    rintro e5 w5 ⟨rfl, rfl⟩
    go_wp2_with fail
    generalize w5.setCell ⟨b, m + 4, none⟩ (.int .i32 op) = w6 at *
    refine (parts_so (HP.out.fr (by repeat (first | with_reducible exact Fr.refl _ _ | (with_reducible refine Fr.drew ?_) | (with_reducible refine Fr.drewN ?_ _) | (with_reducible refine Fr.alloc ?_ _) | ((with_reducible refine Fr.setCell ?_ ?_ _); rotate_left; first | exact .inl rfl | exact .inr (Nat.le_refl _) | exact .inl (Nat.le_refl _) | (focus (left; simp; done)) | (focus (left; simp; omega)) | (focus (left; omega)) | (focus (right; simp; done)) | (focus (right; simp; omega)) | (focus (right; omega))) | exact Fr.refl _ _))) HPa.out).mono ?_
    rintro e7 w7 ⟨rfl, hS7, hF7⟩
    have HS7 : Hid (So w7 f o ty c sp G bk) := hS7
    have HF7 : Hid (Fr (fun b => b ∈ bk) w6 w7) := hF7
    clear hS7 hF7
    go_wp2_with fail
    have HW8 : Hid (Wr w (w7.alloc (.cells #[.int .i32 (l[0]?.getD 0), .int .i32 (l[1]?.getD 0)] 275)) (.slice (some ⟨g, 0, none⟩) (due.length + 1) cap) (.slice ea dn.length ec) (u :: due) dn) := (HW2.out.kp HS.out HF7.out).fr ((Fr.refl _ _).alloc _)
    have HS8 : Hid (So (w7.alloc (.cells #[.int .i32 (l[0]?.getD 0), .int .i32 (l[1]?.getD 0)] 275)) f o ty c sp G bk) := HS7.out.fr (by repeat (first | with_reducible exact Fr.refl _ _ | (with_reducible refine Fr.drew ?_) | (with_reducible refine Fr.drewN ?_ _) | (with_reducible refine Fr.alloc ?_ _) | ((with_reducible refine Fr.setCell ?_ ?_ _); rotate_left; first | exact .inl rfl | exact .inr (Nat.le_refl _) | exact .inl (Nat.le_refl _) | (focus (left; simp; done)) | (focus (left; simp; omega)) | (focus (left; omega)) | (focus (right; simp; done)) | (focus (right; simp; omega)) | (focus (right; omega))) | exact Fr.refl _ _))
    have HF8 : Hid (Fr (fun b => b ∈ bk) w (w7.alloc (.cells #[.int .i32 (l[0]?.getD 0), .int .i32 (l[1]?.getD 0)] 275))) := (HF2.out.trans HF7.out (fun _ h => .inl h)).alloc _
    have HB8 : Hid ((w7.alloc (.cells #[.int .i32 (l[0]?.getD 0), .int .i32 (l[1]?.getD 0)] 275)).heap[w7.heap.size]? = some (.cells #[.int .i32 (l[0]?.getD 0), .int .i32 (l[1]?.getD 0)] 275 (0, 0))) := blk_new w7 _
    have HG8 : Hid (g < w7.heap.size) := by show g < w7.heap.size; have := HF7.out.size; have := (HW2.out.d.lt g rfl).2; omega
    have HWs : Hid (w.heap.size ≤ w7.heap.size) := Nat.le_trans hge2 HF7.out.size
    have hll := xParts_len HPa.out
    generalize hw8 : w7.alloc (.cells #[.int .i32 (l[0]?.getD 0), .int .i32 (l[1]?.getD 0)] 275) = w8 at *
    generalize w7.heap.size = pb at *
    clear HW2 HS7 HF7 HF2 HPa hw8 HP hge2 d4 q0 HSk HXu HAd hge f4 hb
    go_loopg [16, 9, 11] l.length (fun m2 iv dv bv wr2 => ∃ (j : Nat) (due3 : List Int) (ok3 : Bool), iv = .int .i64 j ∧ j ≤ l.length ∧ m2 = l.length - j ∧ bv = .bool ok3 ∧ Wr w wr2 dv (.slice ea dn.length ec) due3 dn ∧ xDue sp op (l.drop j) due3 ok3 = some (due2, ok2) ∧ due3.length ≤ due.length + 1 + j ∧ So wr2 f o ty c sp G bk ∧ Fr (fun b => b ∈ bk) w wr2 ∧ wr2.heap[pb]? = some (.cells #[.int .i32 (l[0]?.getD 0), .int .i32 (l[1]?.getD 0)] 275 (0, 0)) ∧ ∀ b, dv.ownBlock = some b → b ≠ pb)
    case atStart =>
      refine ⟨0, u :: due, ok1, rfl, Nat.zero_le _, rfl, rfl, HW8.out, HQ.out, by simp, HS8.out, HF8.out, HB8.out, fun b hb => ?_⟩
      injection hb with hb
      have := HG8.out
      show b ≠ pb
      have h2 : g = b := hb
      omega
    case round =>
      obtain ⟨j, due3, ok3, rfl, hj, hm2, rfl, hW3, hq3, hl3, hS3, hF3, hB3, hne3⟩ := hrel
      have HM : Hid (gk = l.length - j) := hm2
      clear hm2 HW8 HS8 HF8 HB8 HQ
      obtain ⟨da, dc, rfl⟩ := ownsRow_len hW3.d
      by_cases hjl : j < l.length
      · rw [drop_cons hjl, xDue] at hq3
        obtain ⟨y, hy, hq3⟩ := bindO hq3
        have cj := cellP hB3 (j := j) (by omega)
        have hpb := blk_lt hB3
        have HB3 : Hid (wr.heap[pb]? = some (.cells #[.int .i32 (l[0]?.getD 0), .int .i32 (l[1]?.getD 0)] 275 (0, 0))) := hB3
        obtain ⟨pj, hpj⟩ : ∃ pj, l.getD j 0 = pj := ⟨_, rfl⟩
        rw [hpj] at cj hy hq3
        obtain ⟨b3, m3, ha3⟩ := adr_ex bk pj
        obtain ⟨hb3, -, -, -, -, d4, -, -⟩ := hS3.six hy ha3
        have HS3 : Hid (So wr f o ty c sp G bk) := hS3
        have HF3 : Hid (Fr (fun b => b ∈ bk) w wr) := hF3
        have HY : Hid (xAt sp pj = some y) := hy
        have HA3 : Hid (adr bk pj = ⟨b3, m3, none⟩) := ha3
        have HW3 : Hid (Wr w wr (.slice da due3.length dc) (.slice ea dn.length ec) due3 dn) := hW3
        have HN3 : Hid (∀ b, (Value.slice da due3.length dc).ownBlock = some b → b ≠ pb) := hne3
        clear hS3 hy ha3 hF3 hne3 hpj hB3
        have hcast : (j : Int) < (l.length : Int) := by omega
        by_cases hym : y.mrk = op
        · rw [if_pos hym] at hq3
          have HQ : Hid _ := hq3
          rw [hym] at d4
          clear hq3 hym hW3
          go_wp2_with fail
          refine (at_so HS3.out HY.out HA3.out).mono ?_
          rintro e5 w5 ⟨rfl, rfl⟩
          go_wp2_with fail
          go_roundg (l.length - (j + 1))
          case measure => rw [HM.out]; omega
          case rel => exact ⟨j + 1, due3, false, by go_num, by omega, rfl, rfl, HW3.out, HQ.out, by omega, HS3.out, HF3.out, HB3.out, HN3.out⟩
        · rw [if_neg hym] at hq3
          have HQ : Hid _ := hq3
          have m4 : (y.mrk == op) = false := by simpa using hym
          generalize y.mrk = ym at d4 m4
          have hD3 := hW3.d.alloc (.cells #[.int .i32 pj] 155)
          have HBA : Hid ((wr.alloc (.cells #[.int .i32 pj] 155)).heap[pb]? = some (.cells #[.int .i32 (l[0]?.getD 0), .int .i32 (l[1]?.getD 0)] 275 (0, 0))) := (Below.heap_alloc _ _ _ hpb).trans HB3.out
          clear hq3 hym hW3
          go_wp2_with fail
          refine (at_so HS3.out HY.out HA3.out).mono ?_
          rintro e5 w5 ⟨rfl, rfl⟩
          go_wp2_with (at_builtin; refine wpList_app slTy rfl (.tmp 99) (.tmp 103) rfl w.heap.size due3.length (tyC due3.reverse) _ rfl hD3 ⟨w5.heap.size, 0, none⟩ 1 1 [.int .i32 pj] rfl rfl ?c1 ?c2 (by decide) ?b1 ?b2 ?b3 ?grow)
          case c1 => intro i v hi; exact cells_new _ (by simp) hi
          case c2 => intro v hv; simp at hv; rcases hv with rfl; rfl
          case b1 => unfold maxLen; omega
          case b2 => omega
          case b3 => simp; have := HF3.out.size; omega
          case grow =>
            intro v' w9 hown hgrow hv g' cap' hfm
            subst hfm
            have HW9 : Hid (Wr w w9 (.slice (some ⟨g', 0, none⟩) (due3.length + 1) cap') (.slice ea dn.length ec) (pj :: due3) dn) := (HW3.out.fr ((Fr.refl _ _).alloc _)).pushD hgrow hown (by simpa using hv)
            have HG : Hid (∀ b, (Value.slice da due3.length dc).ownBlock = some b → w.heap.size ≤ b) := fun b hb => (HW3.out.d.lt b hb).1
            have HS9 : Hid (So w9 f o ty c sp G bk) := HS.out.grow (HS3.out.fr (by repeat (first | with_reducible exact Fr.refl _ _ | (with_reducible refine Fr.drew ?_) | (with_reducible refine Fr.drewN ?_ _) | (with_reducible refine Fr.alloc ?_ _) | ((with_reducible refine Fr.setCell ?_ ?_ _); rotate_left; first | exact .inl rfl | exact .inr (Nat.le_refl _) | exact .inl (Nat.le_refl _) | (focus (left; simp; done)) | (focus (left; simp; omega)) | (focus (left; omega)) | (focus (right; simp; done)) | (focus (right; simp; omega)) | (focus (right; omega))) | exact Fr.refl _ _))) hgrow HG.out
            have HF9 : Hid (Fr (fun b => b ∈ bk) w w9) := (HF3.out.alloc _).grown hgrow (fun b hb => .inr (HG.out b hb))
            have HB9 : Hid (w9.heap[pb]? = some (.cells #[.int .i32 (l[0]?.getD 0), .int .i32 (l[1]?.getD 0)] 275 (0, 0))) := (hgrow.block pb (blk_lt HBA.out) (fun e => HN3.out pb e.symm rfl)).trans HBA.out
            have HN9 : Hid (∀ b, (Value.slice (some ⟨g', 0, none⟩) (due3.length + 1) cap').ownBlock = some b → b ≠ pb) := fun b hb => by
              rcases hv with h | h
              · exact HN3.out b (h ▸ hb)
              · rw [h] at hb; injection hb with hb; have := blk_lt HBA.out; simp at hb this; omega
            clear hown hgrow hv hD3
            go_wp2_with fail
            go_roundg (l.length - (j + 1))
            case measure => rw [HM.out]; omega
            case rel => exact ⟨j + 1, pj :: due3, ok3, by go_num, by omega, rfl, rfl, HW9.out, HQ.out, by simp; omega, HS9.out, HF9.out, HB9.out, HN9.out⟩
      · obtain rfl : j = l.length := by omega
        rw [List.drop_length, xDue] at hq3
        injection hq3 with hq3
        injection hq3 with e1 e2
        subst e1 e2
        have HE : Hid (Wr w wr (.slice da due3.length dc) (.slice ea dn.length ec) due3 dn ∧ So wr f o ty c sp G bk ∧ Fr (fun b => b ∈ bk) w wr) := ⟨hW3, hS3, hF3⟩
        clear hW3 hS3 hF3 hB3 hne3
        go_wp2_with fail
        go_roundg k
        case measure => omega
        case rel => exact ⟨due3, dn, sp, ok3, rfl, HE.out.1, HK.out, HE.out.2.1, HE.out.2.2⟩
end
end Go.Proofs.YtklimomeendajaaGreatDoor

/- inside, Sound, New. -/
namespace Go.Proofs.YtklimomeendajaaGreatDoor
open Go.RowKit

section
variable {s s' : SX}

theorem xComp_len {e : Int} : ∀ (n : Nat) (s s' : SX) (t : Int), xComp e n s t = some s' → s'.ns.length = s.ns.length ∧ s'.wk = s.wk
  | 0, _, _, _, h => by cases h
  | n + 1, s, s', t, h => by
    rw [xComp] at h
    split at h
    · injection h with h; subst h; exact ⟨rfl, rfl⟩
    · obtain ⟨x, -, h⟩ := bindO h
      have := xComp_len n _ _ _ h
      rw [xSet_len] at this
      exact this

theorem xFind_len {n : Nat} {t e : Int} (h : xFind n s t = some (s', e)) : s'.ns.length = s.ns.length ∧ s'.wk = s.wk := by
  unfold xFind at h
  obtain ⟨a, -, h⟩ := bindO h
  obtain ⟨b, h2, h⟩ := bindO h
  injection h with h
  injection h with h _
  subst h
  exact xComp_len _ _ _ _ h2

theorem xParts_ns {n : Nat} {t : Int} {l : List Int} (h : xParts n s t = some (s', l)) : s'.ns.length = s.ns.length ∧ s'.wk = s.wk := by
  unfold xParts at h
  obtain ⟨x, -, h⟩ := bindO h
  split at h
  · obtain ⟨⟨y1, y2⟩, h1, h⟩ := bindO h
    injection h with h
    injection h with h _
    subst h
    exact xFind_len h1
  split at h
  · obtain ⟨⟨y1, y2⟩, h1, h⟩ := bindO h
    obtain ⟨x2, -, h⟩ := bindO h
    obtain ⟨⟨z1, z2⟩, h3, h⟩ := bindO h
    injection h with h
    injection h with h _
    subst h
    have a := xFind_len h1
    have b := xFind_len h3
    exact ⟨b.1.trans a.1, b.2.trans a.2⟩
  · injection h with h
    injection h with h _
    subst h
    exact ⟨rfl, rfl⟩

theorem xWalkL_len {o : Int} : ∀ (n : Nat) (s : SX) (due done : List Int) (ok : Bool) (s' : SX) (d : List Int) (b : Bool), xWalkL o n s due done ok = some (s', d, b) → s'.ns.length = s.ns.length ∧ s'.wk = s.wk
  | 0, _, _, _, _, _, _, _, h => by cases h
  | n + 1, s, [], done, ok, s', d, b, h => by
    rw [xWalkL] at h
    injection h with h
    injection h with h _
    subst h
    exact ⟨rfl, rfl⟩
  | n + 1, s, t :: due, done, ok, s', d, b, h => by
    rw [xWalkL] at h
    split at h
    · cases h
    obtain ⟨x, -, h⟩ := bindO h
    split at h
    · exact xWalkL_len n _ _ _ _ _ _ _ h
    split at h
    · have := xWalkL_len n _ _ _ _ _ _ _ h
      rw [xSet_len] at this
      exact this
    · obtain ⟨⟨p1, p2⟩, hp, h⟩ := bindO h
      obtain ⟨q, -, h⟩ := bindO h
      have a := xWalkL_len n _ _ _ _ _ _ _ h
      have b := xParts_ns hp
      rw [xSet_len] at b
      exact ⟨a.1.trans b.1, a.2.trans b.2⟩

theorem xWalk_len {n : Nat} {t : Int} {d : List Int} {b : Bool} (h : xWalk n s t = some (s', d, b)) : s'.ns.length = s.ns.length ∧ s'.wk = s.wk := by
  unfold xWalk at h
  obtain ⟨⟨y1, y2⟩, h1, h⟩ := bindO h
  have a := xWalkL_len _ _ _ _ _ _ _ _ h
  have b := xFind_len h1
  exact ⟨a.1.trans b.1, a.2.trans b.2⟩
end

/-- The store's own block, and its nodes. -/
def own2 (f : Nat) (bk : List Nat) (b : Nat) : Prop := b = f ∨ b ∈ bk

section
variable {w w' w1 w2 : World} {f o : Nat} {ty : TypeId} {c : Array Value} {s s' s2 : SX} {G G' : Value} {bk bk' : List Nat} {t : Int} {x x' : ND}

theorem So.kp2 (h : So w f o ty c s G bk) {W W' : World} (hF : Fr (own2 f bk) W W') {k : Nat} {ob : Obj} (hk : w.heap.size ≤ k) (hb : W.heap[k]? = some ob) : W'.heap[k]? = some ob :=
  (hF.block k (blk_lt hb) (fun hm => h.new hk (by rcases hm with hm | hm; exact .inl hm; exact .inr (.inr hm)))).trans hb

theorem So.kpR2 (h : So w f o ty c s G bk) {W W' : World} (hF : Fr (own2 f bk) W W') {e : TypeId} {z n : Nat} {v : Value} {xs : List Value} (hr : W.ownsRow w.heap.size e z v n xs) : W'.ownsRow w.heap.size e z v n xs :=
  ownsRow_block hr fun b hb => hF.block b (hr.lt b hb).2 (fun hm => h.new (hr.lt b hb).1 (by rcases hm with hm | hm; exact .inl hm; exact .inr (.inr hm)))

theorem xTick_some {n : SX} (h : xTick s = some n) : s.wk < 1000000000 ∧ n = { s with wk := s.wk + 1 } := by
  unfold xTick at h
  split at h
  · injection h with h; exact ⟨by assumption, h.symm⟩
  · cases h

set_option maxHeartbeats 600000 in
set_option maxRecDepth 100000 in
theorem inside_so (h : So w f o ty c s G bk) {n : Nat} {done : List Int} {ok : Bool} (hx : xInside n s t = some (s', done, ok)) :
    Calls Tryz.prog 169 #[.pointer (some ⟨f, o, none⟩), .int .i32 t] w fun e w' => ∃ D, e = .returned (.tuple #[D, .bool ok]) ∧ w'.ownsRow w.heap.size 155 1 D done.length (tyC done) ∧ So w' f o ty c s' G bk ∧ Fr (own2 f bk) w w' := by
  unfold xInside at hx
  obtain ⟨s0, ht, hx⟩ := bindO hx
  obtain ⟨hw, rfl⟩ := xTick_some ht
  obtain ⟨-, -, c2, hfz⟩ := h.cells
  have f2 := hfz (o + 2)
  have hfl := h.flt
  have w0 := h.w0
  have HT : Hid (So (w.setCell ⟨f, o + 2, none⟩ (.int .i32 (s.wk + 1))) f o ty c { s with wk := s.wk + 1 } G bk) := h.tick (by omega) (by omega)
  have HX : Hid (xWalk n { s with wk := s.wk + 1 } t = some (s', done, ok)) := hx
  clear h ht hx hfz
  go_enter Tryz.func169, Tryz.ntmps169
  go_wp2_with fail
  refine (walk_so HT.out HX.out).mono ?_
  rintro e w1 ⟨D, rfl, hR, hS, hF⟩
  have hsz : (w.setCell ⟨f, o + 2, none⟩ (.int .i32 (s.wk + 1))).heap.size = w.heap.size := by simp
  rw [hsz] at hR
  have HE : Hid (w1.ownsRow w.heap.size 155 1 D done.length (tyC done) ∧ So w1 f o ty c s' G bk ∧ Fr (own2 f bk) w w1) := ⟨hR, hS, Fr.trans (O' := fun b => b ∈ bk) ((Fr.refl _ w).setCell (.inl (.inl rfl)) _) hF (fun i hi => .inl (.inr hi))⟩
  obtain ⟨da, dc, rfl⟩ := ownsRow_len hR
  clear hR hS hF hsz
  go_wp2_with fail
  go_ret2
  exact ⟨_, rfl, HE.out⟩

set_option maxHeartbeats 600000 in
set_option maxRecDepth 100000 in
theorem sound_so (h : So w f o ty c s G bk) {n : Nat} {b : Bool} (hx : xSound n s = some (s', b)) :
    Calls Tryz.prog 74 #[.pointer (some ⟨f, o, none⟩)] w fun e w' => e = .returned (.bool b) ∧ So w' f o ty c s' G bk ∧ Fr (own2 f bk) w w' := by
  unfold xSound at hx
  obtain ⟨s0, ht, hx⟩ := bindO hx
  obtain ⟨hw, rfl⟩ := xTick_some ht
  obtain ⟨-, -, c2, hfz⟩ := h.cells
  have f2 := hfz (o + 2)
  have hfl := h.flt
  have w0 := h.w0
  have hsz := h.sz
  have HT : Hid (So (w.setCell ⟨f, o + 2, none⟩ (.int .i32 (s.wk + 1))) f o ty c { s with wk := s.wk + 1 } G bk) := h.tick (by omega) (by omega)
  have HX : Hid (xSoundL n s.ns.length 0 { s with wk := s.wk + 1 } = some (s', b)) := hx
  clear h ht hx hfz
  go_enter Tryz.func74, Tryz.ntmps74
  go_wp2_with fail
  go_loopg [3] s.ns.length (fun k iv wr => ∃ (j : Nat) (sk : SX), iv = .int .i64 j ∧ j + k = s.ns.length ∧ sk.ns.length = s.ns.length ∧ xSoundL n k j sk = some (s', b) ∧ So wr f o ty c sk G bk ∧ Fr (own2 f bk) w wr)
  case atStart => exact ⟨0, { s with wk := s.wk + 1 }, rfl, by omega, rfl, HX.out, HT.out, (Fr.refl _ w).setCell (.inl (.inl rfl)) _⟩
  case round =>
    obtain ⟨j, sk, rfl, hj, hl, hk, hS, hF⟩ := hrel
    clear HX HT c2 f2 hfl
    obtain ⟨-, c1, -, -⟩ := hS.cells
    have hfl := hS.flt
    rw [hl] at c1
    have HS : Hid (So wr f o ty c sk G bk) := hS
    have HF : Hid (Fr (own2 f bk) w wr) := hF
    cases gk with
    | zero =>
      obtain rfl : j = s.ns.length := by omega
      rw [xSoundL] at hk
      injection hk with hk
      injection hk with e1 e2
      subst e1 e2
      clear hS hF
      go_wp2_with fail
      go_ret
      exact ⟨rfl, HS.out, HF.out⟩
    | succ k =>
      rw [xSoundL] at hk
      obtain ⟨⟨s1, d1, ok1⟩, hwk, hk⟩ := bindO hk
      have HW : Hid (xWalk n sk j = some (s1, d1, ok1)) := hwk
      have HL : Hid (s1.ns.length = s.ns.length) := (xWalk_len hwk).1.trans hl
      have hjl : j < s.ns.length := by omega
      cases ok1 with
      | false =>
        injection hk with hk
        injection hk with e1 e2
        subst e1 e2
        clear hS hF hwk hl hj
        go_wp2_with fail
        refine (walk_so HS.out HW.out).mono ?_
        rintro e w1 ⟨D, rfl, hR, hS1, hF1⟩
        have HE : Hid (So w1 f o ty c s1 G bk ∧ Fr (own2 f bk) w w1) := ⟨hS1, HF.out.trans hF1 (fun i hi => .inl (.inr hi))⟩
        obtain ⟨da, dc, rfl⟩ := ownsRow_len hR
        clear hR hS1 hF1
        go_wp2_with fail
        go_ret
        exact ⟨rfl, HE.out⟩
      | true =>
        have HK : Hid (xSoundL n k ((j : Int) + 1) s1 = some (s', b)) := hk
        have HJ : Hid (j + (k + 1) = s.ns.length) := hj
        clear hS hF hwk hl hk hj
        go_wp2_with fail
        refine (walk_so HS.out HW.out).mono ?_
        rintro e w1 ⟨D, rfl, hR, hS1, hF1⟩
        have HE : Hid (So w1 f o ty c s1 G bk ∧ Fr (own2 f bk) w w1) := ⟨hS1, HF.out.trans hF1 (fun i hi => .inl (.inr hi))⟩
        obtain ⟨da, dc, rfl⟩ := ownsRow_len hR
        clear hR hS1 hF1
        go_wp2_with fail
        go_roundg k
        case measure => omega
        case rel => exact ⟨j + 1, s1, by go_num, by have := HJ.out; omega, HL.out, by have := HK.out; simpa using this, HE.out.1, HE.out.2⟩
end
end Go.Proofs.YtklimomeendajaaGreatDoor
