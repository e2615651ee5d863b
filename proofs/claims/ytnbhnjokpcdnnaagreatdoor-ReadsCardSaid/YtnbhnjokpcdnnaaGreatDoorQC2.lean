import Derived.Test.YtnbhnjokpcdnnaaGreatDoorQC1
set_option linter.unusedSimpArgs false
set_option linter.unusedVariables false

namespace Go.Proofs.YtnbhnjokpcdnnaaGreatDoor
open Go.RowKit
section
variable {n m : Nat} {k nm ow : List UInt8} {z : Int} {subs pats : List Code} {nms : List (List UInt8)} {b : Bool} {w : World} {p v : Value}

theorem wrap_nat {j : Nat} (h : j ≤ 1000) : IntKind.i64.wrap (j : Int) = (j : Int) := by
  rw [IntKind.wrap_i64]
  omega

theorem wts_drop {l : List Code} {j : Nat} (hj : j < l.length) : wt l[j] ≤ wts l := by
  have : ∀ (l : List Code) (a : Code), a ∈ l → wt a ≤ wts l := by
    intro l
    induction l with
    | nil => intro a h; cases h
    | cons d l ih =>
      intro a h
      rw [wts_cons]
      rcases List.mem_cons.1 h with rfl | h
      · omega
      · have := ih a h; omega
  exact this l _ (List.getElem_mem _)

set_option maxHeartbeats 3200000 in
set_option maxRecDepth 100000 in
theorem bound_match_some (IH : BdOk n m) (q0 : (k == [118, 97, 114]) = false) (q1 : (k == [102, 110]) = false) (q2 : (k == [100, 101, 102]) = false) (q3 : (k == [108, 101, 116]) = false) (q4 : (k == [116, 114, 121]) = false) (q5 : (k == [114, 101, 99]) = false) (q6 : (k == [109, 97, 116, 99, 104]) = true) (hne : nms ≠ []) (hlen : pats.length + 1 ≤ subs.length) (hpos : 0 < subs.length) {x0 : Bool} (h0 : bR n subs[0] nms = some x0)
    (h : bArms (bR n) n nms pats (subs.drop 1) x0 = some b) (hs : ∀ a ∈ subs, Sh m a) (hsp : ∀ a ∈ pats, Sh m a) (hN : Nd w (fun _ => False) (nd k z nm ow subs pats) p) (hv : StrRow w v nms) (hl : nms.length + wts subs + wts pats ≤ 999) :
    Calls Tryz.prog 12 #[p, v] w fun e w' => e = .returned (.bool b) ∧ Fr (fun _ => False) w w' := by
  obtain ⟨bb, rfl, -, hblt⟩ := hN.ptr
  have HV : Hid (StrRow w v nms) := hv
  have HN : Hid (Nd w (fun _ => False) (nd k z nm ow subs pats) (.pointer (some ⟨bb, 0, none⟩))) := hN
  have HS : Hid (∀ a ∈ subs, Sh m a) := hs
  have HSP : Hid (∀ a ∈ pats, Sh m a) := hsp
  have HB : Hid (bArms (bR n) n nms pats (subs.drop 1) x0 = some b) := h
  have hpl : pats.length ≤ 999 := by have := len_wts (fun a ha => Sh.pos (hsp a ha)); omega
  obtain ⟨va, vc, rfl, -⟩ := hv
  obtain ⟨c0, -, -⟩ := hN.cells
  obtain ⟨g, gc, pv, -, k4, hgl, hcell, hNs⟩ := hN.sub (i := 0) hpos
  have HC0 : Hid (∀ w2, Fr (fun _ => False) w w2 → Calls Tryz.prog 12 #[pv, .slice va nms.length vc] w2 fun e w' => e = .returned (.bool x0) ∧ Fr (fun _ => False) w2 w') := fun w2 h5 => IH h0 (hs _ (List.getElem_mem _)) (hNs.fr h5) (HV.out.fr h5) (by have := wts_drop hpos; omega)
  obtain ⟨a4, cc4, a5, c5, -, -, k5⟩ := hN.lens
  clear h hs hN hsp h0 hNs
  go_enter Tryz.func12, Tryz.ntmps12
  go_wp2_with (at_builtin; refine wpList_appS slStr rfl (.const (.slice none 0 0)) (.tmp 16) rfl w.heap.size [] nms _ rfl (World.ownsRow_nil _ _ _ _) _ rfl HV.out ?b1 ?b2 ?b3 ?next)
  case next =>
    intro v' w0 hown hgrow
    have hF : Fr (fun _ => False) w w0 := (Fr.refl _ w).grown hgrow (fun j hj => by cases hj)
    have HO0 : Hid (w0.ownsRow w.heap.size 9 1 v' nms.length (strs nms)) := hown
    have HF0 : Hid (Fr (fun _ => False) w w0) := hF
    have c01 := (World.cell?_of_block (a := ⟨bb, 0, none⟩) (hF.block bb hblt id)).trans c0
    have k41 := (World.cell?_of_block (a := ⟨bb, 4, none⟩) (hF.block bb hblt id)).trans k4
    have hcell1 := (World.cell?_of_block (a := ⟨g, 0, none⟩) (hF.block g hgl id)).trans hcell
    have hb1 : bb < w0.heap.size := Nat.lt_of_lt_of_le hblt hF.size
    have hg1 : g < w0.heap.size := Nat.lt_of_lt_of_le hgl hF.size
    have hvform : v' = .slice none 0 0 ∧ nms = [] ∨ ∃ g0 cap0, v' = .slice (some ⟨g0, 0, none⟩) nms.length cap0 ∧ nms.length ≤ cap0 := by
      rcases (show w0.ownsRow w.heap.size 9 1 v' nms.length (strs nms) from hown).2 with ⟨h1, h2⟩ | ⟨g0, cap0, cur, h1, _, _, h2, _⟩
      · exact .inl ⟨h1, List.eq_nil_of_length_eq_zero h2⟩
      · exact .inr ⟨g0, cap0, h1, h2⟩
    clear hown hgrow hF
    rcases hvform with ⟨-, hnil⟩ | ⟨g0, cap0, rfl, hcap⟩
    · exact (hne hnil).elim
    · have HL2 : Hid (∀ w3, Fr (fun _ => False) w0 w3 → StrRow w3 (.slice (some ⟨g0, 0, none⟩) nms.length nms.length) nms) := fun w3 h => by
        have h1 := StrRow.own (ownsRow_block HO0.out (fun b hb => h.block b (HO0.out.lt b hb).2 id))
        obtain ⟨a, c, h2, h3⟩ := h1
        cases h2
        exact ⟨_, _, rfl, h3⟩
      go_wp2_with fail
      refine (HC0.out _ HF0.out).mono ?_
      rintro e w1 ⟨rfl, hF1⟩
      have HF1 : Hid (Fr (fun _ => False) w w1) := HF0.out.trans hF1 (fun _ h => .inl h)
      have HF01 : Hid (Fr (fun _ => False) w0 w1) := hF1
      clear c01 k41 hcell1 hb1 hg1 hF1 HC0
      go_wp2_with fail
      go_loopg [11, 12] pats.length (fun mm okv iv wr => ∃ (j : Nat) (o : Bool), iv = .int .i64 j ∧ j ≤ pats.length ∧ mm = pats.length - j ∧ okv = .bool o ∧ bArms (bR n) n nms (pats.drop j) ((subs.drop 1).drop j) o = some b ∧ Fr (fun _ => False) w0 wr)
      case atStart => exact ⟨0, x0, rfl, Nat.zero_le _, rfl, rfl, HB.out, HF01.out⟩
      case round =>
        obtain ⟨j, o, rfl, hj, hm, rfl, hall, hFr⟩ := hrel
        have HM : Hid (gk = pats.length - j) := hm
        have HF : Hid (Fr (fun _ => False) w0 wr) := hFr
        have hFw : Fr (fun _ => False) w wr := HF0.out.trans hFr (fun _ h => .inl h)
        have HFW : Hid (Fr (fun _ => False) w wr) := hFw
        clear hm hFr
        have k51 := (World.cell?_of_block (a := ⟨bb, 5, none⟩) (hFw.block bb hblt id)).trans k5
        have k41 := (World.cell?_of_block (a := ⟨bb, 4, none⟩) (hFw.block bb hblt id)).trans k4
        have hb1 : bb < wr.heap.size := Nat.lt_of_lt_of_le hblt hFw.size
        by_cases hlt : j < pats.length
        · obtain ⟨gp, gpc, pp, -, k5', hgpl, hpcell, hNp⟩ := HN.out.pat hlt
          rw [k5] at k5'
          cases k5'
          have hpcell1 := (World.cell?_of_block (a := ⟨gp, j, none⟩) (hFw.block gp hgpl id)).trans hpcell
          have hgp1 : gp < wr.heap.size := Nat.lt_of_lt_of_le hgpl hFw.size
          obtain ⟨gs, gsc, ps, -, k4', hgsl, hscell, hNs⟩ := HN.out.sub (i := j + 1) (by omega)
          rw [k4] at k4'
          cases k4'
          rw [drop_cons hlt, List.drop_drop, Nat.add_comm 1 j, drop_cons (show j + 1 < subs.length by omega)] at hall
          obtain ⟨x, hx1, hall⟩ := bindS hall
          obtain ⟨y, hy1, hall⟩ := bindS hall
          obtain ⟨hxl, hcall⟩ := named_ref n m (inn := []) (out := x.1) (ok := x.2) hx1 (HSP.out _ (List.getElem_mem _)) (w := wr) (p := pp) (v := .slice none 0 0) (base := wr.heap.size) ((hNp.fr hFw).any (Fr.refl _ _) (fun b hb h => by omega)) (World.ownsRow_nil _ _ _ _) (Nat.le_refl _) (by have := wts_drop hlt; simp; omega)
          have hxl2 : x.1.length + wt subs[j + 1] + nms.length ≤ 1000 := by
            have h1 := wts_drop hlt
            have h2 := wts_drop (show j + 1 < subs.length by omega)
            simp at hxl
            omega
          have HCB : Hid (∀ w2 v2, Fr (fun _ => False) w w2 → StrRow w2 v2 (nms ++ x.1) → Calls Tryz.prog 12 #[ps, v2] w2 fun e w' => e = .returned (.bool y) ∧ Fr (fun _ => False) w2 w') := fun w2 v2 h5 h6 => IH hy1 (HS.out _ (List.getElem_mem _)) (hNs.fr h5) h6 (by simp; omega)
          obtain ⟨xo, hxo⟩ : ∃ xo, xo = x.2 := ⟨_, rfl⟩
          have HXO : Hid (xo = x.2) := hxo
          have HALL : Hid (bArms (bR n) n nms (pats.drop (j + 1)) ((subs.drop 1).drop (j + 1)) (o && xo && y) = some b) := by rw [hxo, List.drop_drop, Nat.add_comm 1 (j + 1)]; exact hall
          have HCN : Hid (Calls Tryz.prog 23 #[pp, .slice none 0 0] wr _) := hcall
          obtain ⟨j1, hj1⟩ : ∃ j1, j1 = j + 1 := ⟨_, rfl⟩
          have E1 : (j : Int) + 1 = (j1 : Int) := by omega
          have hjs : (j1 : Int) < (subs.length : Int) := by omega
          have hj1l : j1 < subs.length := by omega
          have hj1b : j1 ≤ 1000 := by omega
          have HJ1 : Hid (j1 = j + 1) := hj1
          have hwr1 : IntKind.i64.wrap (j1 : Int) = (j1 : Int) := wrap_nat hj1b
          rw [← hj1] at hscell
          clear hj1
          clear hall hy1 hx1 hNp hNs hcall hxl hxo hFw hpcell
          go_wp2_with fail
          refine HCN.out.mono ?_
          rintro e w2 ⟨v2, rfl, hv2, hF2⟩
          rw [← HXO.out]
          have HFw2 : Hid (Fr (fun _ => False) w w2) := HFW.out.trans hF2 (fun b h => .inr (Nat.le_trans HFW.out.size h))
          have HF02 : Hid (Fr (fun _ => False) w0 w2) := HF.out.trans hF2 (fun b h => .inr (Nat.le_trans HF.out.size h))
          have HV2 : Hid (StrRow w2 v2 x.1) := StrRow.own hv2
          obtain ⟨va2, vc2, rfl⟩ := ownsRow_len hv2
          have HF02D : Hid (Fr (fun _ => False) w0 w2.drew) := HF02.out.drew
          have HV2D : Hid (StrRow w2.drew (.slice va2 x.1.length vc2) x.1) := HV2.out.fr ((Fr.refl _ _).drew)
          have hbd : nms.length + x.1.length ≤ 100000 := by omega
          clear hv2 hF2 HCN k51 k41 hb1 hpcell1 hgp1
          have k42 := (World.cell?_of_block (a := ⟨bb, 4, none⟩) (HFw2.out.block bb hblt id)).trans k4
          have hs2 := (World.cell?_of_block (a := ⟨g, j1, none⟩) (HFw2.out.block g hgl id)).trans hscell
          have hb2 : bb < w2.heap.size := Nat.lt_of_lt_of_le hblt HFw2.out.size
          have hg2 : g < w2.heap.size := Nat.lt_of_lt_of_le hgl HFw2.out.size
          go_wp2_with fail
          go_region_law (first
            | (refine step_appG slStr rfl (.tmp 167) (.tmp 168) rfl nms x.1 (.slice (some ⟨g0, 0, none⟩) nms.length nms.length) ?_ (HL2.out w2.drew HF02D.out) (.inr ⟨g0, 0, rfl⟩) (.slice va2 x.1.length vc2) ?_ HV2D.out hbd (by decide) ?_; simp [Act.eval, Act.put]; simp [Act.eval, Act.put]; rintro v3 w3 hst3 hF3; have HST3 : Hid (StrRow w3 v3 (nms ++ x.1)) := hst3; have HF3 : Hid (Fr (fun _ => False) w w3) := (HFw2.out.drew).trans hF3 (fun _ h => .inl h); have HF03 : Hid (Fr (fun _ => False) w0 w3) := (HF02.out.drew).trans hF3 (fun _ h => .inl h); have k43 := (World.cell?_of_block (a := ⟨bb, 4, none⟩) (HF3.out.block bb hblt id)).trans k4; have hs3 := (World.cell?_of_block (a := ⟨g, j1, none⟩) (HF3.out.block g hgl id)).trans hscell; have hb3 : bb < w3.heap.size := Nat.lt_of_lt_of_le hblt HF3.out.size; have hg3 : g < w3.heap.size := Nat.lt_of_lt_of_le hgl HF3.out.size; clear hst3 hF3)
            | (rw [if_pos (by simp [Region.wanted])]; unfold Oper.wp; go_simp; go_at_call 12; refine (HCB.out _ _ HF3.out HST3.out).mono ?_; rintro e w4 ⟨rfl, hF4⟩; have HF4 : Hid (Fr (fun _ => False) w0 w4) := HF03.out.trans hF4 (fun _ h => .inl h); clear hF4))
          all_goals
            clear HCB
            cases o
            all_goals
              cases xo
              all_goals
                go_wp2_with fail
                go_roundg (pats.length - (j + 1))
                case measure => rw [HM.out]; omega
                case rel => exact ⟨j1, _, rfl, by rw [HJ1.out]; omega, by rw [HJ1.out], rfl, by rw [HJ1.out]; exact HALL.out, HF4.out⟩
        · obtain rfl : j = pats.length := by omega
          rw [List.drop_length, bArms] at hall
          injection hall with hall
          have HR : Hid (o = b) := hall
          clear hall
          go_wp2_with fail
          go_ret
          rw [HR.out]
          exact ⟨rfl, HFW.out⟩
  all_goals first | exact Nat.le_refl _ | omega | (unfold maxLen; omega) | (unfold maxLen; simp; omega) | (simp; omega) | (unfold maxLen; decide) | decide | simp [maxLen]
end
end Go.Proofs.YtnbhnjokpcdnnaaGreatDoor
