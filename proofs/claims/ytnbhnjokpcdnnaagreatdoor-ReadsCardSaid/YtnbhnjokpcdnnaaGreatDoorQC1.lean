import Derived.Test.YtnbhnjokpcdnnaaGreatDoorQC0
set_option linter.unusedSimpArgs false
set_option linter.unusedVariables false

namespace Go.Proofs.YtnbhnjokpcdnnaaGreatDoor
open Go.RowKit
section
variable {n m : Nat} {k nm ow : List UInt8} {z : Int} {subs pats : List Code} {nms : List (List UInt8)} {b : Bool} {w : World} {p v : Value}

set_option maxHeartbeats 6400000 in
set_option maxRecDepth 100000 in
theorem bound_let (IH : BdOk n m) (q0 : (k == [118, 97, 114]) = false) (q1 : (k == [102, 110]) = false) (q2 : (k == [100, 101, 102]) = false) (q3 : (k == [108, 101, 116]) = true) {a c : Code} (ha : subs[0]? = some a) (hc : subs[1]? = some c) {x y : Bool} (h : bR n a nms = some x) (h2 : bR n c (nms ++ [nm]) = some y) (hs : Sh m a) (hs2 : Sh m c) (hN : Nd w (fun _ => False) (nd k z nm ow subs pats) p) (hv : StrRow w v nms) (hl : nms.length + 1 + wt a + wt c ≤ 1000) :
    Calls Tryz.prog 12 #[p, v] w fun e w' => e = .returned (.bool (x && y)) ∧ Fr (fun _ => False) w w' := by
  obtain ⟨bb, rfl, -, hblt⟩ := hN.ptr
  have hpos : 1 < subs.length := (List.getElem?_eq_some_iff.1 hc).1
  have ha' : subs[0] = a := by rw [List.getElem?_eq_getElem (by omega)] at ha; injection ha
  have hc' : subs[1] = c := by rw [List.getElem?_eq_getElem hpos] at hc; injection hc
  have hposI : (1 : Int) < (subs.length : Int) := by omega
  have HV : Hid (StrRow w v nms) := hv
  obtain ⟨va, vc, rfl, -⟩ := hv
  obtain ⟨c0, c2, -⟩ := hN.cells
  obtain ⟨g, gc, pv, -, k4, hgl, hcell, hNs⟩ := hN.sub (i := 0) (by omega)
  obtain ⟨g', gc', pv', -, k4', hgl', hcell', hNs'⟩ := hN.sub hpos
  rw [k4] at k4'
  cases k4'
  rw [ha'] at hNs
  rw [hc'] at hNs'
  have HC0 : Hid (∀ w2, Fr (fun _ => False) w w2 → Calls Tryz.prog 12 #[pv, .slice va nms.length vc] w2 fun e w' => e = .returned (.bool x) ∧ Fr (fun _ => False) w2 w') := fun w2 h5 => IH h hs (hNs.fr h5) (HV.out.fr h5) (by omega)
  have HC : Hid (∀ w2 v2, Fr (fun _ => False) w w2 → w2.ownsRow w.heap.size 9 1 v2 (nms ++ [nm]).length (strs (nms ++ [nm])) → Calls Tryz.prog 12 #[pv', v2] w2 fun e w' => e = .returned (.bool y) ∧ Fr (fun _ => False) w2 w') := fun w2 v2 h5 h6 => IH h2 hs2 (hNs'.fr h5) (StrRow.own h6) (by simp; omega)
  clear h hs ha hNs ha' hN h2 hs2 hc hc' hNs' hgl'
  go_enter Tryz.func12, Tryz.ntmps12
  go_wp2_with (at_builtin; refine wpList_appS slStr rfl (.const (.slice none 0 0)) (.tmp 16) rfl w.heap.size [] nms _ rfl (World.ownsRow_nil _ _ _ _) _ rfl HV.out ?b1 ?b2 ?b3 ?next)
  case next =>
    intro v' w0 hown hgrow
    have hF : Fr (fun _ => False) w w0 := (Fr.refl _ w).grown hgrow (fun j hj => by cases hj)
    have HO0 : Hid (w0.ownsRow w.heap.size 9 1 v' nms.length (strs nms)) := hown
    have HF0 : Hid (Fr (fun _ => False) w w0) := hF
    have c01 := (World.cell?_of_block (a := ⟨bb, 0, none⟩) (hF.block bb hblt id)).trans c0
    have k41 := (World.cell?_of_block (a := ⟨bb, 4, none⟩) (hF.block bb hblt id)).trans k4
    have hcell1 := (World.cell?_of_block (a := ⟨g, 0, none⟩) (hF.block g hgl id)).trans hcell
    have hb1 : bb < w0.heap.size := Nat.lt_of_lt_of_le hblt hF.size
    have hg1 : g < w0.heap.size := Nat.lt_of_lt_of_le hgl hF.size
    obtain ⟨va1, vc1, rfl⟩ := ownsRow_len (show w0.ownsRow w.heap.size 9 1 v' nms.length (strs nms) from hown)
    clear hown hgrow hF
    go_wp2_with fail
    refine (HC0.out _ HF0.out).mono ?_
    rintro e w1 ⟨rfl, hF2⟩
    have HO : Hid (w1.ownsRow w.heap.size 9 1 (.slice va1 nms.length vc1) nms.length (strs nms)) := ownsRow_block HO0.out (fun b hb => hF2.block b (HO0.out.lt b hb).2 id)
    have hF : Fr (fun _ => False) w w1 := HF0.out.trans hF2 (fun _ h => .inl h)
    have HF : Hid (Fr (fun _ => False) w w1) := hF
    have hw1 : w.heap.size ≤ w1.heap.size := hF.size
    clear c01 k41 hcell1 hb1 hg1 hF2 HO0 HF0 HC0
    have c21 := (World.cell?_of_block (a := ⟨bb, 2, none⟩) (hF.block bb hblt id)).trans c2
    have k41 := (World.cell?_of_block (a := ⟨bb, 4, none⟩) (hF.block bb hblt id)).trans k4
    have hcell1 := (World.cell?_of_block (a := ⟨g, 1, none⟩) (hF.block g hgl id)).trans hcell'
    have hb1 : bb < w1.heap.size := Nat.lt_of_lt_of_le hblt hw1
    have hg1 : g < w1.heap.size := Nat.lt_of_lt_of_le hgl hw1
    clear hF
    go_wp2_with fail
    go_region_law (first
      | (refine step_appS slStr rfl (.tmp 64) (.tmp 69) rfl w.heap.size nms [nm] _ rfl ((HO.out.drew).alloc _) _ rfl StrRow.one (by unfold maxLen; simp; omega) (by simp; omega) (by simp; omega) ?_; rintro v2 w2 hown2 hgrow2; have HO2 : Hid (w2.ownsRow w.heap.size 9 1 v2 (nms ++ [nm]).length (strs (nms ++ [nm]))) := hown2; have HF2 : Hid (Fr (fun _ => False) w w2) := (HF.out.drew.alloc _).grown hgrow2 (fun j hj => .inr (HO.out.lt j hj).1); have k42 := (World.cell?_of_block (a := ⟨bb, 4, none⟩) (HF2.out.block bb hblt id)).trans k4; have hcell2 := (World.cell?_of_block (a := ⟨g, 1, none⟩) (HF2.out.block g hgl id)).trans hcell'; have hb2 : bb < w2.heap.size := Nat.lt_of_lt_of_le hblt HF2.out.size; have hg2 : g < w2.heap.size := Nat.lt_of_lt_of_le hgl HF2.out.size; clear hown2 hgrow2)
      | (rw [if_pos (by simp [Region.wanted])]; unfold Oper.wp; go_simp; go_at_call 12; refine (HC.out _ _ HF2.out HO2.out).mono ?_; rintro e w3 ⟨rfl, hF3⟩; have HF3 : Hid (Fr (fun _ => False) w w3) := HF2.out.trans hF3 (fun _ h => .inl h); clear hF3))
    all_goals
      cases x
      all_goals
        go_wp2_with fail
        go_ret
        exact ⟨rfl, HF3.out⟩
  all_goals first | exact Nat.le_refl _ | omega | (unfold maxLen; omega) | (unfold maxLen; simp; omega) | (simp; omega)

set_option maxHeartbeats 6400000 in
set_option maxRecDepth 100000 in
theorem bound_try (IH : BdOk n m) (q0 : (k == [118, 97, 114]) = false) (q1 : (k == [102, 110]) = false) (q2 : (k == [100, 101, 102]) = false) (q3 : (k == [108, 101, 116]) = false) (q4 : (k == [116, 114, 121]) = true) {a c : Code} (ha : subs[0]? = some a) (hc : subs[1]? = some c) {x y : Bool} (h : bR n a nms = some x) (h2 : bR n c (nms ++ [nm]) = some y) (hs : Sh m a) (hs2 : Sh m c) (hN : Nd w (fun _ => False) (nd k z nm ow subs pats) p) (hv : StrRow w v nms) (hl : nms.length + 1 + wt a + wt c ≤ 1000) :
    Calls Tryz.prog 12 #[p, v] w fun e w' => e = .returned (.bool (x && y)) ∧ Fr (fun _ => False) w w' := by
  obtain ⟨bb, rfl, -, hblt⟩ := hN.ptr
  have hpos : 1 < subs.length := (List.getElem?_eq_some_iff.1 hc).1
  have ha' : subs[0] = a := by rw [List.getElem?_eq_getElem (by omega)] at ha; injection ha
  have hc' : subs[1] = c := by rw [List.getElem?_eq_getElem hpos] at hc; injection hc
  have hposI : (1 : Int) < (subs.length : Int) := by omega
  have HV : Hid (StrRow w v nms) := hv
  obtain ⟨va, vc, rfl, -⟩ := hv
  obtain ⟨c0, c2, -⟩ := hN.cells
  obtain ⟨g, gc, pv, -, k4, hgl, hcell, hNs⟩ := hN.sub (i := 0) (by omega)
  obtain ⟨g', gc', pv', -, k4', hgl', hcell', hNs'⟩ := hN.sub hpos
  rw [k4] at k4'
  cases k4'
  rw [ha'] at hNs
  rw [hc'] at hNs'
  have HC0 : Hid (∀ w2, Fr (fun _ => False) w w2 → Calls Tryz.prog 12 #[pv, .slice va nms.length vc] w2 fun e w' => e = .returned (.bool x) ∧ Fr (fun _ => False) w2 w') := fun w2 h5 => IH h hs (hNs.fr h5) (HV.out.fr h5) (by omega)
  have HC : Hid (∀ w2 v2, Fr (fun _ => False) w w2 → w2.ownsRow w.heap.size 9 1 v2 (nms ++ [nm]).length (strs (nms ++ [nm])) → Calls Tryz.prog 12 #[pv', v2] w2 fun e w' => e = .returned (.bool y) ∧ Fr (fun _ => False) w2 w') := fun w2 v2 h5 h6 => IH h2 hs2 (hNs'.fr h5) (StrRow.own h6) (by simp; omega)
  clear h hs ha hNs ha' hN h2 hs2 hc hc' hNs' hgl'
  go_enter Tryz.func12, Tryz.ntmps12
  go_wp2_with (at_builtin; refine wpList_appS slStr rfl (.const (.slice none 0 0)) (.tmp 16) rfl w.heap.size [] nms _ rfl (World.ownsRow_nil _ _ _ _) _ rfl HV.out ?b1 ?b2 ?b3 ?next)
  case next =>
    intro v' w0 hown hgrow
    have hF : Fr (fun _ => False) w w0 := (Fr.refl _ w).grown hgrow (fun j hj => by cases hj)
    have HO0 : Hid (w0.ownsRow w.heap.size 9 1 v' nms.length (strs nms)) := hown
    have HF0 : Hid (Fr (fun _ => False) w w0) := hF
    have c01 := (World.cell?_of_block (a := ⟨bb, 0, none⟩) (hF.block bb hblt id)).trans c0
    have k41 := (World.cell?_of_block (a := ⟨bb, 4, none⟩) (hF.block bb hblt id)).trans k4
    have hcell1 := (World.cell?_of_block (a := ⟨g, 0, none⟩) (hF.block g hgl id)).trans hcell
    have hb1 : bb < w0.heap.size := Nat.lt_of_lt_of_le hblt hF.size
    have hg1 : g < w0.heap.size := Nat.lt_of_lt_of_le hgl hF.size
    obtain ⟨va1, vc1, rfl⟩ := ownsRow_len (show w0.ownsRow w.heap.size 9 1 v' nms.length (strs nms) from hown)
    clear hown hgrow hF
    go_wp2_with fail
    refine (HC0.out _ HF0.out).mono ?_
    rintro e w1 ⟨rfl, hF2⟩
    have HO : Hid (w1.ownsRow w.heap.size 9 1 (.slice va1 nms.length vc1) nms.length (strs nms)) := ownsRow_block HO0.out (fun b hb => hF2.block b (HO0.out.lt b hb).2 id)
    have hF : Fr (fun _ => False) w w1 := HF0.out.trans hF2 (fun _ h => .inl h)
    have HF : Hid (Fr (fun _ => False) w w1) := hF
    have hw1 : w.heap.size ≤ w1.heap.size := hF.size
    clear c01 k41 hcell1 hb1 hg1 hF2 HO0 HF0 HC0
    have c21 := (World.cell?_of_block (a := ⟨bb, 2, none⟩) (hF.block bb hblt id)).trans c2
    have k41 := (World.cell?_of_block (a := ⟨bb, 4, none⟩) (hF.block bb hblt id)).trans k4
    have hcell1 := (World.cell?_of_block (a := ⟨g, 1, none⟩) (hF.block g hgl id)).trans hcell'
    have hb1 : bb < w1.heap.size := Nat.lt_of_lt_of_le hblt hw1
    have hg1 : g < w1.heap.size := Nat.lt_of_lt_of_le hgl hw1
    clear hF
    go_wp2_with fail
    go_region_law (first
      | (refine step_appS slStr rfl (.tmp 64) (.tmp 69) rfl w.heap.size nms [nm] _ rfl ((HO.out.drew).alloc _) _ rfl StrRow.one (by unfold maxLen; simp; omega) (by simp; omega) (by simp; omega) ?_; rintro v2 w2 hown2 hgrow2; have HO2 : Hid (w2.ownsRow w.heap.size 9 1 v2 (nms ++ [nm]).length (strs (nms ++ [nm]))) := hown2; have HF2 : Hid (Fr (fun _ => False) w w2) := (HF.out.drew.alloc _).grown hgrow2 (fun j hj => .inr (HO.out.lt j hj).1); have k42 := (World.cell?_of_block (a := ⟨bb, 4, none⟩) (HF2.out.block bb hblt id)).trans k4; have hcell2 := (World.cell?_of_block (a := ⟨g, 1, none⟩) (HF2.out.block g hgl id)).trans hcell'; have hb2 : bb < w2.heap.size := Nat.lt_of_lt_of_le hblt HF2.out.size; have hg2 : g < w2.heap.size := Nat.lt_of_lt_of_le hgl HF2.out.size; clear hown2 hgrow2)
      | (rw [if_pos (by simp [Region.wanted])]; unfold Oper.wp; go_simp; go_at_call 12; refine (HC.out _ _ HF2.out HO2.out).mono ?_; rintro e w3 ⟨rfl, hF3⟩; have HF3 : Hid (Fr (fun _ => False) w w3) := HF2.out.trans hF3 (fun _ h => .inl h); clear hF3))
    all_goals
      cases x
      all_goals
        go_wp2_with fail
        go_ret
        exact ⟨rfl, HF3.out⟩
  all_goals first | exact Nat.le_refl _ | omega | (unfold maxLen; omega) | (unfold maxLen; simp; omega) | (simp; omega)
end
end Go.Proofs.YtnbhnjokpcdnnaaGreatDoor

namespace Go.Proofs.YtnbhnjokpcdnnaaGreatDoor
open Go.RowKit

/-- The rest of a row of one's own, as it is read. -/
theorem StrRow.tail {w : World} {base : Nat} {e : TypeId} {g c : Nat} {a l : List (List UInt8)} {len : Nat} (hlen : len = (a ++ l).length) (h : w.ownsRow base e 1 (.slice (some ⟨g, 0, none⟩) len c) len (strs (a ++ l))) {ad : Option Addr} {c' : Nat} (had : l ≠ [] → ad = some ⟨g, a.length, none⟩) : StrRow w (.slice ad l.length c') l := by
  refine ⟨ad, c', rfl, fun j x hx => ⟨g, a.length, had (by rintro rfl; simp at hx), (h.lt g rfl).2, ?_⟩⟩
  have hj := (List.getElem?_eq_some_iff.1 hx).1
  rw [World.ownsRow.cellAt h _ (by rw [hlen, List.length_append]; omega)]
  simp [strs, List.getElem?_append_right, hx]

section
variable {n m : Nat} {k nm ow : List UInt8} {z : Int} {subs pats : List Code} {nms : List (List UInt8)} {b : Bool} {w : World} {p v : Value}

set_option maxHeartbeats 2000000 in
set_option maxRecDepth 100000 in
theorem bound_rec (IH : BdOk n m) (q0 : (k == [118, 97, 114]) = false) (q1 : (k == [102, 110]) = false) (q2 : (k == [100, 101, 102]) = false) (q3 : (k == [108, 101, 116]) = false) (q4 : (k == [116, 114, 121]) = false) (q5 : (k == [114, 101, 99]) = true) {L : List (List UInt8)} {n1 : Nat} (hn1 : subs.length = n1 + 1) (hL : L.length = n1) (hLo : ∀ j (hj : j < n1), L[j]'(by omega) = ownOf (subs[j]'(by omega)))
    {D : Bool} (hD : dupR [] L = D) (h : (if D = true then some false else bAll (bR n) subs (nms ++ L)) = some b) (hs : ∀ a ∈ subs, Sh m a) (hN : Nd w (fun _ => False) (nd k z nm ow subs pats) p) (hv : StrRow w v nms) (hl : ∀ a ∈ subs, nms.length + n1 + wt a ≤ 1000) :
    Calls Tryz.prog 12 #[p, v] w fun e w' => e = .returned (.bool b) ∧ Fr (fun _ => False) w w' := by
  obtain ⟨bb, rfl, -, hblt⟩ := hN.ptr
  have hnl : nms.length + n1 + 1 ≤ 1000 := by
    have h1 := hl _ (List.getElem_mem (l := subs) (n := 0) (by omega))
    have h2 := Sh.pos (hs _ (List.getElem_mem (l := subs) (n := 0) (by omega)))
    omega
  have HV : Hid (StrRow w v nms) := hv
  have HN : Hid (Nd w (fun _ => False) (nd k z nm ow subs pats) (.pointer (some ⟨bb, 0, none⟩))) := hN
  have HS : Hid (∀ a ∈ subs, Sh m a) := hs
  have HL : Hid (∀ a ∈ subs, nms.length + n1 + wt a ≤ 1000) := hl
  have HLO : Hid (∀ j (hj : j < n1), L[j]'(by omega) = ownOf (subs[j]'(by omega))) := hLo
  have HD : Hid (dupR [] L = D) := hD
  have HB : Hid ((if D = true then some false else bAll (bR n) subs (nms ++ L)) = some b) := h
  have HSL : Hid (subs.length = n1 + 1) := hn1
  have E1 : (subs.length : Int) - 1 = (n1 : Int) := by omega
  obtain ⟨va, vc, rfl, -⟩ := hv
  obtain ⟨c0, -, -⟩ := hN.cells
  obtain ⟨g, gc, pv, -, k4, hgl, -, -⟩ := hN.sub (i := 0) (by omega)
  clear h hs hN hl hLo hD
  go_enter Tryz.func12, Tryz.ntmps12
  go_wp2_with (at_builtin; refine wpList_appS slStr rfl (.const (.slice none 0 0)) (.tmp 16) rfl w.heap.size [] nms _ rfl (World.ownsRow_nil _ _ _ _) _ rfl HV.out ?b1 ?b2 ?b3 ?next)
  case next =>
    intro v' w0 hown hgrow
    have hF : Fr (fun _ => False) w w0 := (Fr.refl _ w).grown hgrow (fun j hj => by cases hj)
    have HO0 : Hid (w0.ownsRow w.heap.size 9 1 v' nms.length (strs nms)) := hown
    have HF0 : Hid (Fr (fun _ => False) w w0) := hF
    have c01 := (World.cell?_of_block (a := ⟨bb, 0, none⟩) (hF.block bb hblt id)).trans c0
    have k41 := (World.cell?_of_block (a := ⟨bb, 4, none⟩) (hF.block bb hblt id)).trans k4
    have hb1 : bb < w0.heap.size := Nat.lt_of_lt_of_le hblt hF.size
    have hg1 : g < w0.heap.size := Nat.lt_of_lt_of_le hgl hF.size
    clear hown hgrow hF
    go_wp2_with fail
    go_loopg [5, 9] n1 (fun mm lv iv wr => ∃ j : Nat, iv = .int .i64 j ∧ j ≤ n1 ∧ mm = n1 - j ∧ wr.ownsRow w.heap.size 9 1 lv (nms ++ L.take j).length (strs (nms ++ L.take j)) ∧ dupR (L.take j) (L.drop j) = D ∧ Fr (fun _ => False) w wr)
    case atStart => exact ⟨0, rfl, Nat.zero_le _, rfl, by simpa using HO0.out, HD.out, HF0.out⟩
    case round =>
      obtain ⟨j, rfl, hj, hm, hown, hdup, hF⟩ := hrel
      have HM : Hid (gk = n1 - j) := hm
      have HF : Hid (Fr (fun _ => False) w wr) := hF
      clear hm c01 k41 hb1 hg1
      have k41 := (World.cell?_of_block (a := ⟨bb, 4, none⟩) (hF.block bb hblt id)).trans k4
      have hb1 : bb < wr.heap.size := Nat.lt_of_lt_of_le hblt hF.size
      have hg1 : g < wr.heap.size := Nat.lt_of_lt_of_le hgl hF.size
      have hwr : w.heap.size ≤ wr.heap.size := hF.size
      by_cases hlt : j < n1
      · obtain ⟨g', gc', pv', -, k4', -, hcell, hNs⟩ := (HN.out.fr hF).sub (i := j) (by omega)
        rw [k41] at k4'
        cases k4'
        have hSh := HS.out _ (List.getElem_mem (l := subs) (n := j) (by omega))
        have hown' := HLO.out j hlt
        obtain ⟨pd, rfl, -, hpd⟩ := hNs.ptr
        have hcd : wr.cell? ⟨pd, 3, none⟩ = some (.string (bs (L[j]'(by omega)))) := by
          cases m with
          | zero => exact hSh.elim
          | succ m =>
            obtain ⟨k', z', nm', ow', s', p', he, -, -⟩ := hSh
            rw [he] at hNs
            rw [hown', he, ownOf_nd]
            exact hNs.cells.2.2
        clear hSh hown' hNs
        have hlj : (nms ++ L.take j).length = nms.length + j := by simp; omega
        have hlt2 : (L.take j).length = j := by simp; omega
        rw [hlj] at hown
        have hdj : D = ((L.take j).contains (L[j]'(by omega)) || dupR (L.take j ++ [L[j]'(by omega)]) (L.drop (j + 1))) := by
          rw [← hdup, List.drop_eq_getElem_cons (by omega)]
          rfl
        have htk : L.take (j + 1) = L.take j ++ [L[j]'(by omega)] := by rw [List.take_add_one, List.getElem?_eq_getElem (by omega)]; rfl
        have HOW : Hid _ := hown
        obtain ⟨x, hx⟩ : ∃ x, x = L[j]'(by omega) := ⟨_, rfl⟩
        rw [← hx] at hdj htk hcd
        obtain ⟨tw, htw⟩ : ∃ tw, tw = (L.take j).contains x := ⟨_, rfl⟩
        rw [← htw] at hdj
        have HTW : Hid (tw = (L.take j).contains x) := htw
        have HDJ : Hid (D = (tw || dupR (L.take j ++ [x]) (L.drop (j + 1)))) := hdj
        have HTK : Hid (L.take (j + 1) = L.take j ++ [x]) := htk
        have hjb : j ≤ 1000 := by omega
        have HNX : Hid (∀ (v2 : Value) (w2 : World), w2.ownsRow w.heap.size 9 1 v2 ((nms ++ L.take j) ++ [x]).length (strs ((nms ++ L.take j) ++ [x])) → w2.ownsRow w.heap.size 9 1 v2 (nms ++ L.take (j + 1)).length (strs (nms ++ L.take (j + 1)))) := fun v2 w2 h => by rw [htk, ← List.append_assoc]; exact h
        have hlen1 : (nms ++ L.take j).length + 1 ≤ 1001 := by omega
        have HLJ : Hid ((nms ++ L.take j).length = nms.length + j) := hlj
        rcases hown.2 with ⟨rfl, h0⟩ | ⟨g0, cap0, cur, rfl, hg0, hg1', hnc, hrest⟩
        · obtain rfl : nms = [] := List.eq_nil_of_length_eq_zero (by omega)
          obtain rfl : j = 0 := by simpa using h0
          have HCALL : Hid (∀ w', Calls Tryz.prog 21 #[.slice none 0 0, .string (bs x)] w' fun e w'' => e = .returned (.bool tw) ∧ w'' = w') := fun w' => by rw [HTW.out]; exact has_ref (StrRow.nil w' none 0) (by simp) x
          have HOW2 : Hid (∀ q, (wr.drewN q).ownsRow w.heap.size 9 1 (.slice none 0 0) ([] ++ L.take 0).length (strs ([] ++ L.take 0))) := fun q => ownsRow_block (by rw [HLJ.out]; exact HOW.out) (fun _ _ => rfl)
          clear hown hdj htk hx htw hlj hlt2 h0 hdup
          go_wp2_with fail
          go_quiet ((go_at_call 21; exact Calls.quiet_of_same (HCALL.out _)))
          have HTF : Hid (tw = false) := by
            show _ = _
            rw [HTW.out]
            rfl
          obtain rfl := HTF.out
          have HDJ2 : Hid (dupR (L.take 0 ++ [x]) (L.drop (0 + 1)) = D) := by
            show _ = _
            have := HDJ.out
            simpa using this.symm
          clear HDJ HCALL
          go_wp2_with (at_builtin; refine wpList_appS slStr rfl (.tmp 105) (.tmp 116) rfl w.heap.size ([] ++ L.take 0) [x] _ rfl ((HOW2.out _).alloc _) _ rfl StrRow.one ?f1 ?f2 ?f3 ?ny)
          case ny =>
            intro v2 w2 hown2 hgrow2
            have HO2 : Hid (w2.ownsRow w.heap.size 9 1 v2 ([] ++ L.take (0 + 1)).length (strs ([] ++ L.take (0 + 1)))) := HNX.out _ _ (by simpa using hown2)
            have HF2 : Hid (Fr (fun _ => False) w w2) := ((HF.out.drewN _).alloc _).grown hgrow2 (fun j hj => .inr ((HOW2.out 0).lt j hj).1)
            clear hown2 hgrow2
            go_wp2_with fail
            go_roundg (n1 - (0 + 1))
            case measure => rw [HM.out]; omega
            case rel => exact ⟨0 + 1, by go_num, by omega, rfl, HO2.out, by rw [HTK.out]; exact HDJ2.out, HF2.out⟩
          all_goals first | exact Nat.le_refl _ | omega | (unfold maxLen; omega) | (unfold maxLen; simp; omega) | (simp; omega) | (unfold maxLen; decide) | decide | simp [maxLen]
        · have hst : StrRow wr (.slice (if cap0 = nms.length then some ⟨g0, 0, none⟩ else some ⟨g0, nms.length, none⟩) (L.take j).length (cap0 - nms.length)) (L.take j) := StrRow.tail (by omega) hown (fun hne => by
            have : 0 < j := by
              rcases Nat.eq_zero_or_pos j with h | h
              · subst h; exact (hne rfl).elim
              · exact h
            rw [if_neg (by omega)])
          rw [hlt2] at hst
          obtain ⟨A, hA⟩ : ∃ A : Addr, (if cap0 = nms.length then some (⟨g0, 0, none⟩ : Addr) else some ⟨g0, nms.length, none⟩) = some A := by
            by_cases h : cap0 = nms.length
            · exact ⟨_, if_pos h⟩
            · exact ⟨_, if_neg h⟩
          rw [hA] at hst
          have HCALL : Hid (∀ w', Fr (fun _ => False) wr w' → Calls Tryz.prog 21 #[.slice (some A) j (cap0 - nms.length), .string (bs x)] w' fun e w'' => e = .returned (.bool tw) ∧ w'' = w') := fun w' hw' => by rw [HTW.out]; exact has_ref (hst.fr hw') (by omega) x
          have HOW2 : Hid (∀ q, (wr.drewN q).ownsRow w.heap.size 9 1 (.slice (some ⟨g0, 0, none⟩) (nms.length + j) cap0) (nms ++ L.take j).length (strs (nms ++ L.take j))) := fun q => ownsRow_block (by rw [HLJ.out]; exact HOW.out) (fun _ _ => rfl)
          clear hg1' hrest hown hdj htk hx htw hst hlj hlt2 hdup
          go_wp2_with fail
          go_quiet ((go_at_call 21; exact Calls.quiet_of_same (HCALL.out _ ((Fr.refl _ _).drewN _))))
          cases tw
          · have HDJ2 : Hid (dupR (L.take j ++ [x]) (L.drop (j + 1)) = D) := by
              show _ = _
              have := HDJ.out
              simpa using this.symm
            clear HDJ HCALL
            go_wp2_with (at_builtin; refine wpList_appS slStr rfl (.tmp 105) (.tmp 116) rfl w.heap.size (nms ++ L.take j) [x] _ rfl ((HOW2.out _).alloc _) _ rfl StrRow.one ?e1 ?e2 ?e3 ?nx)
            case nx =>
              intro v2 w2 hown2 hgrow2
              have HO2 : Hid (w2.ownsRow w.heap.size 9 1 v2 (nms ++ L.take (j + 1)).length (strs (nms ++ L.take (j + 1)))) := HNX.out _ _ (by have e : ((nms ++ L.take j) ++ [x]).length = nms.length + (j + 1) := (by simp; omega); rw [e]; simpa using hown2)
              have HF2 : Hid (Fr (fun _ => False) w w2) := ((HF.out.drewN _).alloc _).grown hgrow2 (fun j hj => .inr ((HOW2.out 0).lt j hj).1)
              clear hown2 hgrow2
              go_wp2_with fail
              go_roundg (n1 - (j + 1))
              case measure => rw [HM.out]; omega
              case rel => exact ⟨j + 1, by go_num, by omega, rfl, HO2.out, by rw [HTK.out]; exact HDJ2.out, HF2.out⟩
            all_goals first | exact Nat.le_refl _ | omega | (unfold maxLen; omega) | (unfold maxLen; simp; omega) | (simp; omega) | (unfold maxLen; decide) | decide | simp [maxLen]
          · have HB2 : Hid (b = false) := by
              have h1 := HDJ.out
              have h2 := HB.out
              rw [h1] at h2
              simp at h2
              exact h2
            go_wp2_with fail
            go_ret
            rw [HB2.out]
            exact ⟨rfl, HF.out.drewN _⟩
      · obtain rfl : j = n1 := by omega
        have htk : L.take j = L := by rw [← hL]; exact List.take_length
        have hdr : L.drop j = [] := by rw [← hL]; exact List.drop_length
        rw [htk, hdr] at hdup
        have HDF : Hid (D = false) := hdup.symm
        rw [htk] at hown
        have HO : Hid (wr.ownsRow w.heap.size 9 1 _ (nms ++ L).length (strs (nms ++ L))) := hown
        obtain ⟨vs, vp, cs, cp, hbs, k4', -, hrow, -, hds, -⟩ := (HN.out.fr hF).rows
        rw [k41] at k4'
        cases k4'
        have HC : Hid (Calls Tryz.prog 22 #[.slice (some ⟨g, 0, none⟩) subs.length gc, _] wr fun e w' => e = .returned (.bool b) ∧ Fr (fun _ => False) wr w') := allBound_ref IH (by have := HB.out; rw [HDF.out] at this; simpa using this) HS.out hrow hds (StrRow.own hown) (fun a ha => by have := HL.out a ha; simp; omega) (by omega)
        clear hown hrow hds hdup htk hdr
        go_wp2_with fail
        have HC2 := HC.out
        rw [hn1] at HC2
        refine HC2.mono ?_
        clear HC2
        rintro e w2 ⟨rfl, hF2⟩
        have HF2 : Hid (Fr (fun _ => False) w w2) := HF.out.trans hF2 (fun _ h => .inl h)
        go_wp2_with fail
        go_ret
        exact ⟨rfl, HF2.out⟩
  all_goals first | exact Nat.le_refl _ | omega | (unfold maxLen; omega) | (unfold maxLen; simp; omega) | (simp; omega) | (unfold maxLen; decide) | decide | simp [maxLen]
end
end Go.Proofs.YtnbhnjokpcdnnaaGreatDoor

namespace Go.Proofs.YtnbhnjokpcdnnaaGreatDoor
open Go.RowKit

section
variable {P : Program} {t e : TypeId} {z : Value} {bytes : Nat} {w : World}

/-- Nothing is appended, from a row that is somewhere. -/
theorem run_app0s (T : SlT P t e z 1 bytes) (ty : TypeId) (b : Option Addr) (n cap : Nat) (hc : n ≤ cap) (a : Option Addr) (c : Nat) :
    (Builtin.append_ #[t, t] ty #[.slice b n cap, .slice a 0 c]).run P w = .ok (.slice b n cap) w := by
  cases a with
  | none => exact run_app0 T ty b n cap hc c
  | some a =>
    obtain ⟨i, hi, hz, hsize, hby⟩ := T.hi
    have hf := run_firstCells_some (P := P) w i.size 0 a 0 c [] (by simp) (fun j u h => by simp at h)
    cases b with
    | none => simp [Builtin.append_, run_underlying T.ht, sizeOf, typeInfo, hi, Builtin.lenOf, hc, hf]
    | some b => simp [Builtin.append_, run_underlying T.ht, sizeOf, typeInfo, hi, Builtin.lenOf, hc, hf, storeCells]

/-- Texts are appended to a row that has no room: a new one. -/
theorem run_appG (T : SlT P t e z 1 bytes) (ty : TypeId) {k l : List (List UInt8)} {v x : Value} (hv : StrRow w v k) (hform : (v = .slice none 0 0 ∧ k = []) ∨ ∃ g off, v = .slice (some ⟨g, off, none⟩) k.length k.length) (hx : StrRow w x l) (h63 : k.length + l.length ≤ 100000) (hb : bytes ≤ 100000) :
    ∃ v' w', (Builtin.append_ #[t, t] ty #[v, x]).run P w = .ok v' w' ∧ StrRow w' v' (k ++ l) ∧ Fr (fun _ => False) w w' := by
  obtain ⟨i, hi, hz, hsize, hby⟩ := T.hi
  obtain ⟨a, c, rfl, hrow⟩ := hx
  have hbb : (k.length + l.length) * bytes ≤ 10000000000 := Nat.le_trans (Nat.mul_le_mul h63 hb) (by decide)
  cases l with
  | nil =>
    rcases hform with ⟨rfl, rfl⟩ | ⟨g, off, rfl⟩
    · exact ⟨_, w, run_app0s T ty none 0 0 (Nat.le_refl _) a c, hv, Fr.refl _ _⟩
    · exact ⟨_, w, run_app0s T ty _ k.length k.length (Nat.le_refl _) a c, by simpa using hv, Fr.refl _ _⟩
  | cons y l =>
    obtain ⟨ga, oa, rfl, -, -⟩ := hrow 0 y rfl
    have hnews : ∀ j u, (strs (y :: l))[j]? = some u → w.cell? ((⟨ga, oa, none⟩ : Addr).add j) = some u := by
      intro j u hu
      simp only [strs, List.getElem?_map, Option.map_eq_some_iff] at hu
      obtain ⟨y', hy, rfl⟩ := hu
      obtain ⟨g, off, h1, h2, h3⟩ := hrow j y' hy
      injection h1 with h1
      injection h1 with h4 h5
      subst h4 h5
      rw [Addr.add_lit]; exact h3
    have hst : strs (k ++ y :: l) = strs k ++ strs (y :: l) := by simp [strs]
    have hlen : (strs (y :: l)).length = (y :: l).length := by simp [strs]
    rcases hform with ⟨rfl, rfl⟩ | ⟨g, off, rfl⟩
    · have hr := run_append_nil (P := P) w t ty e i z T.ht hi hz ⟨ga, oa, none⟩ (y :: l).length c (strs (y :: l)) (by rw [hsize, hlen]; simp) hnews (by simp) (by simp at h63 ⊢; omega) (by rw [hby]; simp at hbb ⊢; omega)
      refine ⟨_, _, hr, ⟨_, _, rfl, fun j x hj => ⟨w.heap.size, 0, rfl, by simp, ?_⟩⟩, (Fr.refl _ w).drew.alloc _⟩
      have hj' : (strs (y :: l))[j]? = some (.string (bs x)) := by
        have hj2 : (y :: l)[j]? = some x := hj
        simp only [strs, List.getElem?_map, hj2, Option.map_some]
      have hjl := (List.getElem?_eq_some_iff.1 hj').1
      simp only [World.cell?]
      rw [show (w.drew.alloc (.cells ((strs (y :: l)).toArray ++ Builtin.zeroCells z.cells (grownCap w (y :: l).length 0 e - (y :: l).length)) e)).heap[w.heap.size]? = some _ from heap_alloc_new _ _]
      simp only [Nat.zero_add]
      rw [Array.getElem?_append_left (by simpa using hjl)]
      simpa using hj'
    · have holds : ∀ j u, (strs k)[j]? = some u → w.cell? ((⟨g, off, none⟩ : Addr).add j) = some u := by
        intro j u hu
        simp only [strs, List.getElem?_map, Option.map_eq_some_iff] at hu
        obtain ⟨y', hy, rfl⟩ := hu
        obtain ⟨a', c', h0, hrow'⟩ := hv
        cases h0
        obtain ⟨g', off', h1, h2, h3⟩ := hrow' j y' hy
        injection h1 with h1
        injection h1 with h4 h5
        subst h4 h5
        rw [Addr.add_lit]; exact h3
      have hr := run_append_grow (P := P) w t ty e i z T.ht hi hz ⟨g, off, none⟩ k.length k.length (strs k) (by rw [hsize]; simp [strs]) holds ⟨ga, oa, none⟩ (y :: l).length c (strs (y :: l)) (by rw [hsize, hlen]; simp) hnews (by simp) (by simp at h63 ⊢; omega) (growslice_fits (by simp) (by rw [hby]; omega))
      refine ⟨_, _, hr, ⟨_, _, by rw [List.length_append], fun j x hj => ⟨w.heap.size, 0, rfl, by simp, ?_⟩⟩, (Fr.refl _ w).drew.alloc _⟩
      have hj' : (strs k ++ strs (y :: l))[j]? = some (.string (bs x)) := by
        rw [← hst]
        simp only [strs, List.getElem?_map, hj, Option.map_some]
      have hjl := (List.getElem?_eq_some_iff.1 hj').1
      simp only [World.cell?]
      rw [show (w.drew.alloc (.cells ((strs k).toArray ++ (strs (y :: l)).toArray ++ Builtin.zeroCells z.cells (grownCap w (k.length + (y :: l).length) k.length e - (k.length + (y :: l).length))) e)).heap[w.heap.size]? = some _ from heap_alloc_new _ _]
      have hjl' : j < (strs k).length + (strs (y :: l)).length := by simpa using hjl
      simp only [List.append_toArray, Nat.zero_add]
      rw [Array.getElem?_append_left (by simpa using hjl')]
      simpa using hj'

theorem step_appG {ops : Array Oper} {o : Oper} {a : Act} {K : Act → World → Prop} {Q : Exit → Act → World → Prop} {X : Prop} (T : SlT P t e z 1 bytes) (hgd : o.guard = none) (s x : Operand)
    (ho : o.op = .call { callee := .builtin .append, args := #[s, x], argTypes := #[t, t] }) (k l : List (List UInt8)) (v : Value) (hs : a.eval s = v) (hv : StrRow w v k) (hform : (v = .slice none 0 0 ∧ k = []) ∨ ∃ g off, v = .slice (some ⟨g, off, none⟩) k.length k.length)
    (vx : Value) (hx : a.eval x = vx) (hrow : StrRow w vx l) (h63 : k.length + l.length ≤ 100000) (hb : bytes ≤ 100000)
    (h : ∀ v' w', StrRow w' v' (k ++ l) → Fr (fun _ => False) w w' → K (a.put o.dst v') w') :
    if Region.wanted o (yielded ops a.tmps) = true then Oper.wp P o a w K Q else X := by
  have hw : Region.wanted o (yielded ops a.tmps) = true := by simp [Region.wanted, hgd]
  rw [if_pos hw]
  obtain ⟨v', w', hr, h2, h3⟩ := run_appG (w := w) T o.type hv hform hrow h63 hb
  unfold Oper.wp execOp
  simp only [ho, resolve, invoke, builtin, Sem.run_bind, Sem.run_pure, Result.andThen_ok, List.map_toArray, List.map_cons, List.map_nil, hs, hx, hr]
  exact h v' w' h2 h3
end
end Go.Proofs.YtnbhnjokpcdnnaaGreatDoor
