import Derived.Test.YtnbhnjokpcdnnaaGreatDoorQB5
import Derived.Test.YtnbhnjokpcdnnaaGreatDoorQB6
import Derived.Test.YtnbhnjokpcdnnaaGreatDoorQB7
import Derived.Deep.RegionLaw
import Derived.LaidEqlPtr
set_option linter.unusedSimpArgs false
set_option linter.unusedVariables false

namespace Go.Proofs.YtnbhnjokpcdnnaaGreatDoor
open Go.RowKit

theorem toC_inj : ∀ {a b : List Code}, toC a = toC b → a = b
  | [], [], _ => rfl
  | [], _ :: _, h => by cases h
  | _ :: _, [], h => by cases h
  | x :: l, y :: m, h => by
    simp only [toC, Code.seq.injEq] at h
    rw [h.1, toC_inj h.2]

/-- What clauses are. -/
theorem Dv_clauses {ws : List RW} : ∀ (n i j : Nat) (t : Code), j - i ≤ n → Dv ws 9 i j t → ∃ ds qs, t = nd [99, 108, 97, 117, 115, 101, 115] 0 [] [] ds qs ∧ 0 < ds.length ∧ ds.length ≤ j - i ∧ 0 < qs.length ∧ qs.length ≤ j - i := by
  intro n
  induction n with
  | zero =>
    intro i j t hn h
    have := Dv_lt h
    omega
  | succ n ih =>
    intro i j t hn h
    obtain ⟨h0, p, q, g1, g2, g3, g4, e, b, g5, g6, g7, ⟨g8, g9⟩ | ⟨g8, g9, bs, qs, g10, g11⟩⟩ := Dv_in h
    · exact ⟨_, _, g9, by simp, by simp; omega, by simp, by simp; omega⟩
    · obtain ⟨ds', qs', h1, h2, h3, h4, h5⟩ := ih (e + 1) j _ (by omega) g10
      simp only [nd, Code.cond.injEq] at h1
      obtain rfl := toC_inj h1.2.1
      obtain rfl := toC_inj h1.2.2
      exact ⟨_, _, g11, by simp, by simp; omega, by simp, by simp; omega⟩

def NoMatch (ws : List RW) (i j p : Nat) : Prop := i + 2 ≤ p → wd ws p [119, 105, 116, 104] = true → ∀ a, Dv ws 0 (i + 1) p a → ∀ bs qs, ¬ Dv ws 9 (p + 1) (j - 1) (nd [99, 108, 97, 117, 115, 101, 115] 0 [] [] bs qs)

theorem NoMatch.all {ws : List RW} {i j : Nat} (h : ∀ p, p < j → NoMatch ws i j p) (t : Code) : ¬ bMatch ws (Dv ws) i j t := by
  rintro ⟨_, p, a, bs, qs, g1, g2, g3, g4, g5, g6⟩
  exact h p g2 g1 g3 a g4 bs qs g5

set_option maxHeartbeats 6400000 in
set_option maxRecDepth 100000 in
theorem match_cut {c : Nat} {ws : List RW} {W : Value} {mb cap nb m : Nat} {Z : Nat → Prop} {w : World} (IH : IsOk c ws W mb cap nb m) {i j : Nat} (hij : i < j) (hj : j ≤ ws.length) (hm : (j - i) * 11 ≤ m) (h : Cut c ws W mb cap nb Z w) (hend : wd ws (j - 1) [101, 110, 100] = true) (hmt : wd ws i [109, 97, 116, 99, 104] = true) :
    Calls Tryz.prog 85 #[.pointer (some ⟨c, 0, none⟩), .int .i64 i, .int .i64 j] w (Res c ws W mb cap nb Z w (bMatch ws (Dv ws) i j)) := by
  have hlen := h.len
  have hC0 := Cs.start h
  have HE : Hid (wd ws (j - 1) [101, 110, 100] = true) := hend
  have HMT : Hid (wd ws i [109, 97, 116, 99, 104] = true) := hmt
  clear h hend hmt
  go_enter Tryz.func85, Tryz.ntmps85
  go_wp2_with fail
  refine (hC0.word (j - 1) (by omega) (by omega) [101, 110, 100]).mono ?_
  rintro e w1 ⟨rfl, rfl⟩
  rw [HE.out]
  go_wp2_with fail
  refine (hC0.word i (by omega) (by omega) [109, 97, 116, 99, 104]).mono ?_
  rintro e w1 ⟨rfl, rfl⟩
  rw [HMT.out]
  go_wp2_with fail
  go_loopg [9] (j - (i + 2)) (fun m pv wr => ∃ p : Nat, pv = .int .i64 p ∧ i + 2 ≤ p ∧ p ≤ j + 1 ∧ m = j - p ∧ Cs c ws W mb cap nb Z w1 wr ∧ ∀ q, q < p → NoMatch ws i j q)
  case atStart => exact ⟨i + 2, by go_num, Nat.le_refl _, by omega, by omega, hC0, fun p h1 h2 => by omega⟩
  case round =>
    clear hC0
    obtain ⟨p, rfl, hp1, hp2, hgk, hC, hst⟩ := hrel
    have HM : Hid (gk = j - p) := hgk
    have HNO : Hid (∀ q, q < p → NoMatch ws i j q) := hst
    clear hgk hst
    by_cases hpj : p < j
    · go_wp2_with fail
      refine (hC.word p (by omega) (by omega) [119, 105, 116, 104]).mono ?_
      rintro e w2 ⟨rfl, rfl⟩
      cases hx : wd ws p [119, 105, 116, 104]
      · go_wp2_with fail
        go_roundg (j - (p + 1))
        case measure => rw [HM.out]; omega
        case rel => exact ⟨p + 1, by go_num, by omega, by omega, rfl, hC, no_ext HNO.out (fun _ h => by rw [hx] at h; cases h)⟩
      · have HS : Hid (wd ws p [119, 105, 116, 104] = true) := hx
        clear hx
        go_wp2_with fail
        refine (IH 0 (i + 1) p _ _ _ _ (by omega) (by omega) (by omega) (by omega) (by omega) (by omega) (by omega) hC.1).mono ?_
        rintro e w3 ⟨pa, rfl, hA, hC2⟩
        have hC3 := hC.go hC2
        clear hC hC2
        rcases hA with ⟨rfl, hno⟩ | ⟨ta, hDa, hNa⟩
        · have HNX : Hid (∀ t, ¬ Dv ws 0 (i + 1) p t) := hno
          clear hno
          go_wp2_with fail
          go_roundg (j - (p + 1))
          case measure => rw [HM.out]; omega
          case rel => exact ⟨p + 1, by go_num, by omega, by omega, rfl, hC3, no_ext HNO.out (fun _ _ a h => (HNX.out a h).elim)⟩
        · obtain ⟨ba, rfl, hba, hlta⟩ := hNa.ptr
          have HDa : Hid (Dv ws 0 (i + 1) p ta) := hDa
          clear hDa
          go_wp2_with fail
          refine (IH 9 (p + 1) (j - 1) _ _ _ _ (by omega) (by omega) (by omega) (by omega) (by omega) (by omega) (by omega) hC3.1).mono ?_
          rintro e w5 ⟨pl, rfl, hB, hC4⟩
          have hNa4 := hNa.cs hC4.2
          have hC5 := hC3.go hC4
          clear hC3 hC4 hNa
          rcases hB with ⟨rfl, hno⟩ | ⟨tl, hDl, hNl⟩
          · have HNX : Hid (∀ t, ¬ Dv ws 9 (p + 1) (j - 1) t) := hno
            clear hno
            go_wp2_with fail
            go_roundg (j - (p + 1))
            case measure => rw [HM.out]; omega
            case rel => exact ⟨p + 1, by go_num, by omega, by omega, rfl, hC5, no_ext HNO.out (fun _ _ a _ bs qs h => HNX.out _ h)⟩
          · obtain ⟨bl, rfl, hbl, hltl⟩ := hNl.ptr
            obtain ⟨ds, qs, rfl, hd1, hd2, hd3, hd4⟩ := Dv_clauses _ _ _ _ (Nat.le_refl _) hDl
            have HDl : Hid (Dv ws 9 (p + 1) (j - 1) (nd [99, 108, 97, 117, 115, 101, 115] 0 [] [] ds qs)) := hDl
            obtain ⟨vs, vp, cs, cp, hbs, k4, k5, hrow, hrX, hds, hcl, hrowp, hpX, hqs, hcpl⟩ := hNl.rows
            obtain ⟨g, gc, rfl, hgl, hgc⟩ := row_form ((hrow.drew).alloc (.cells #[.pointer (some ⟨ba, 0, none⟩)] 26)) hd1
            obtain ⟨gp, gpc, rfl, -, -⟩ := row_form hrowp hd3
            have HT : Hid (Nds w5 (cX mb nb Z) (ta :: ds) (.pointer (some ⟨ba, 0, none⟩) :: cs)) := .cons hNa4 hds
            have HQ : Hid (Nds w5 (cX mb nb Z) qs cp) := hqs
            have HRP : Hid (w5.ownsRow 0 26 1 (.slice (some ⟨gp, 0, none⟩) qs.length gpc) qs.length cp) := hrowp
            have HPX : Hid (∀ b, (Value.slice (some ⟨gp, 0, none⟩) qs.length gpc).ownBlock = some b → ¬ cX mb nb Z b) := hpX
            have HO : Hid (∀ u ∈ cs, u.oneCell' = true) := hds.one
            have HG : Hid (∀ j u, cs[j]? = some u → (w5.drew.alloc (.cells #[.pointer (some ⟨ba, 0, none⟩)] 26)).cell? ((⟨g, 0, none⟩ : Addr).add j) = some u) := hgc
            clear hDl hNl hrow hrX hgc hds hNa4 hrowp hpX hqs
            have hpl : j ≤ 240 := by omega
            go_wp2_with fail
            go_region_law (refine step_app slPE rfl (.tmp 59) (.tmp 63) rfl w5.heap.size 1 [.pointer (some ⟨ba, 0, none⟩)] _ rfl (World.ownsRow_lit (base := w5.heap.size) (e := 26) (size := 1) w5.drew #[.pointer (some ⟨ba, 0, none⟩)] 1 (Nat.le_refl _) (by unfold maxLen; omega) rfl) ⟨g, 0, none⟩ ds.length gc cs rfl (by omega) HG.out HO.out (by omega) (by unfold maxLen; omega) (by omega) (by simp) ?_; rintro v' w6 hown hgrow hv ⟨g', cap', rfl⟩; have HF6 : Hid (Fr (fun _ => False) w5 w6) := ((Fr.refl _ w5).drew.alloc _).grown hgrow (fun k hk => by cases hk; exact .inr (Nat.le_refl _)); have HO2 : Hid (w6.ownsRow w5.heap.size 26 1 (.slice (some ⟨g', 0, none⟩) (1 + ds.length) cap') (1 + ds.length) (.pointer (some ⟨ba, 0, none⟩) :: cs)) := hown; have k5' : w6.cell? ⟨bl, 5, none⟩ = some (.slice (some ⟨gp, 0, none⟩) qs.length gpc) := (World.cell?_of_block (HF6.out.block bl hbs id)).trans k5; have hbs' : bl < w6.heap.size := Nat.lt_of_lt_of_le hbs HF6.out.size; clear hown hgrow hv)
            all_goals
              go_wp2_with fail
              go_ret
              refine ⟨_, rfl, .inr ⟨nd [109, 97, 116, 99, 104] 0 [] [] (ta :: ds) qs, ⟨HE.out, p, ta, ds, qs, hp1, hpj, HS.out, HDa.out, HDl.out, rfl⟩, ?_⟩, hC5.fr (HF6.out.alloc _)⟩
              exact hC5.1.nodeR (HF6.out.alloc _) (HO2.out.alloc _) (by simp; omega) HT.out (ownsRow_block HRP.out fun b hb => (HF6.out.alloc _).block b (HRP.out.lt b hb).2 id) hcpl.symm HPX.out HQ.out HF6.out.size (blk_at _ rfl)
    · go_wp2_with fail
      go_ret
      exact ⟨_, rfl, .inl ⟨rfl, NoMatch.all (fun q hq => HNO.out q (by omega))⟩, hC⟩

end Go.Proofs.YtnbhnjokpcdnnaaGreatDoor

namespace Go.Proofs.YtnbhnjokpcdnnaaGreatDoor
open Go.RowKit

def LookOk (c : Nat) (ws : List RW) (W : Value) (mb cap nb k i j : Nat) : Prop :=
  ∀ ⦃Z : Nat → Prop⦄ (w : World), Cut c ws W mb cap nb Z w → Calls Tryz.prog 43 #[.pointer (some ⟨c, 0, none⟩), .int .i64 k, .int .i64 i, .int .i64 j] w (Res c ws W mb cap nb Z w (Dv ws k i j))

theorem tabAt_lt {n k i j : Nat} (hk : k ≤ 10) (hi : i ≤ n) (hj : j ≤ n) : tabAt n k i j < tabN n := by
  unfold tabAt tabN
  have h1 : k * (n + 1) + i ≤ 10 * (n + 1) + n := by have := Nat.mul_le_mul_right (n + 1) hk; omega
  have h2 := Nat.mul_le_mul_right (n + 1) h1
  have h3 : (10 * (n + 1) + n) * (n + 1) + n < 11 * ((n + 1) * (n + 1)) := by
    have : (10 * (n + 1) + n) * (n + 1) + (n + 1) = 11 * ((n + 1) * (n + 1)) := by
      rw [← Nat.succ_mul, ← Nat.mul_assoc]
      congr 1
      omega
    omega
  omega

theorem tabAt_inj {n k i j k' i' j' : Nat} (hi : i ≤ n) (hj : j ≤ n) (hi' : i' ≤ n) (hj' : j' ≤ n) (h : tabAt n k i j = tabAt n k' i' j') : k = k' ∧ i = i' ∧ j = j' := by
  unfold tabAt at h
  have e1 : ((k * (n + 1) + i) * (n + 1) + j) / (n + 1) = k * (n + 1) + i := by
    rw [Nat.add_comm, Nat.add_mul_div_right _ _ (Nat.succ_pos n), Nat.div_eq_of_lt (by omega), Nat.zero_add]
  have e2 : ((k' * (n + 1) + i') * (n + 1) + j') / (n + 1) = k' * (n + 1) + i' := by
    rw [Nat.add_comm, Nat.add_mul_div_right _ _ (Nat.succ_pos n), Nat.div_eq_of_lt (by omega), Nat.zero_add]
  have e3 : k * (n + 1) + i = k' * (n + 1) + i' := by rw [← e1, ← e2, h]
  have e4 : (k * (n + 1) + i) / (n + 1) = k := by
    rw [Nat.add_comm, Nat.add_mul_div_right _ _ (Nat.succ_pos n), Nat.div_eq_of_lt (by omega), Nat.zero_add]
  have e5 : (k' * (n + 1) + i') / (n + 1) = k' := by
    rw [Nat.add_comm, Nat.add_mul_div_right _ _ (Nat.succ_pos n), Nat.div_eq_of_lt (by omega), Nat.zero_add]
  have e6 : k = k' := by rw [← e4, ← e5, e3]
  subst e6
  have e7 : i = i' := by omega
  subst e7
  exact ⟨rfl, rfl, by omega⟩

section
variable {c : Nat} {ws : List RW} {W : Value} {mb cap nb : Nat} {Z : Nat → Prop} {w w' : World}

/-- The table's cell. -/
theorem Cut.cell (h : Cut c ws W mb cap nb Z w) {k i j : Nat} (hk : k ≤ 10) (hi : i ≤ ws.length) (hj : j ≤ ws.length) :
    ∃ v, w.cell? ⟨mb, tabAt ws.length k i j, none⟩ = some v ∧ w.frozen? ⟨mb, tabAt ws.length k i j, none⟩ = false ∧ mb < w.heap.size ∧ CellOk ws w mb nb Z k i j v := by
  obtain ⟨M, h1, h2⟩ := h.memo
  obtain ⟨v, h3, h4⟩ := h2 k i j hk hi hj
  exact ⟨v, by rw [World.ownsRow.cellAt h1 _ (by have := tabAt_lt hk hi hj; omega)]; exact h3, World.ownsRow.frozenAt h1 _, (h1.lt mb rfl).2, h4⟩

/-- The table's cell is written. -/
theorem Cs.put {w0 : World} (h : Cs c ws W mb cap nb Z w0 w) {k i j : Nat} (hk : k ≤ 10) (hi : i ≤ ws.length) (hj : j ≤ ws.length) {v : Value} (hv : CellOk ws w mb nb Z k i j v) : Cs c ws W mb cap nb Z w0 (w.setCell ⟨mb, tabAt ws.length k i j, none⟩ v) := by
  obtain ⟨h, h0⟩ := h
  obtain ⟨M, h1, h2⟩ := h.memo
  obtain ⟨h3, h4⟩ := World.ownsRow.stored h1 (tabAt ws.length k i j) v
  have hF : Fr (fun b => b = mb) w (w.setCell ⟨mb, tabAt ws.length k i j, none⟩ v) := (Fr.refl (fun b => b = mb) w).setCell (p := ⟨mb, tabAt ws.length k i j, none⟩) (.inl rfl) _
  refine ⟨⟨(hF.block c h.lt h.cm).trans h.blk, ownsRow_block h.row fun b hb => hF.block b (h.row.lt b hb).2 (fun e => h.wm (by rw [hb, e])), h.wm, h.cm, h.nm, h.nbk' hF h.nm, ⟨_, h3, fun k' i' j' hk' hi' hj' => ?_⟩, h.len, fun b hb => Nat.lt_of_lt_of_le (h.zlt b hb) hF.size⟩, h0.trans hF (fun _ h => .inl h)⟩
  obtain ⟨u, h5, h6⟩ := h2 k' i' j' hk' hi' hj'
  by_cases e : tabAt ws.length k i j = tabAt ws.length k' i' j'
  · obtain ⟨rfl, rfl, rfl⟩ := tabAt_inj hi hj hi' hj' e
    refine ⟨v, ?_, hv.fr hF⟩
    have := (List.getElem?_eq_some_iff.1 h5).1
    rw [List.getElem?_set_self this]
  · refine ⟨u, ?_, h6.fr hF⟩
    rw [List.getElem?_set_ne e]
    exact h5
end

theorem Tryz.sizeExp : (Tryz.prog.info? 70).map (fun i => i.size) = some 6 := by kernel_rfl

theorem infoExp : ∃ i, Tryz.prog.info? 70 = some i ∧ i.size ≠ 0 := by
  obtain ⟨i, h1, h2⟩ := Option.map_eq_some_iff.1 Tryz.sizeExp
  exact ⟨i, h1, by omega⟩

theorem ptr_same (a : Addr) (w : World) : (binOp .eql 26 (.pointer (some a)) (.pointer (some a))).run Tryz.prog w = .ok (.bool true) w := by
  obtain ⟨i, h1, _⟩ := infoExp
  exact run_eql_ptr_same w a Tryz.underlying26 h1

theorem nil_ptr (a : Addr) (w : World) : (binOp .eql 26 (.pointer none) (.pointer (some a))).run Tryz.prog w = .ok (.bool false) w := by
  have h : ∀ d : Nat, (Op.equalIn (d + 1) 26 (.pointer none) (.pointer (some a))).run Tryz.prog w = .ok false w := fun d => by
    simp [Op.equalIn, run_underlying Tryz.underlying26]
  simp only [binOp]
  simp [Op.equal, Op.maxDepth, h 9999]

theorem Nd.blk {w : World} {X : Nat → Prop} : ∀ {t : Code} {b : Nat}, Nd w X t (.pointer (some ⟨b, 0, none⟩)) → ∃ ca ta, w.heap[b]? = some (.cells ca ta (0, 0))
  | .cond (.const (.tuple _)) _ _, _, ⟨b, _, _, _, _, _, _, _, _, h1, _, _, h4, _⟩ => by
    cases h1
    exact ⟨_, _, h4⟩

theorem Cut.other {c : Nat} {ws : List RW} {W : Value} {mb cap nb : Nat} {Z : Nat → Prop} {w : World} (h : Cut c ws W mb cap nb Z w) {t : Code} {b : Nat} (hN : Nd w (cX mb nb Z) t (.pointer (some ⟨b, 0, none⟩))) (hb : b ≠ nb) :
    (binOp .eql 26 (.pointer (some ⟨b, 0, none⟩)) (.pointer (some ⟨nb, 0, none⟩))).run Tryz.prog w = .ok (.bool false) w := by
  obtain ⟨i, h1, h2⟩ := infoExp
  obtain ⟨ca, ta, h3⟩ := hN.blk
  obtain ⟨cb, tb, h4⟩ := h.nbk
  exact run_eql_ptr_other w Tryz.underlying26 h1 h2 (fun e => hb (by injection e)) h3 h4

set_option maxHeartbeats 3200000 in
set_option maxRecDepth 100000 in
theorem is_cut {c : Nat} {ws : List RW} {W : Value} {mb cap nb : Nat} {Z : Nat → Prop} {w : World} {k i j : Nat} (hk : k ≤ 10) (hi : i ≤ 1000) (hj : j ≤ ws.length) (HL : i < j → LookOk c ws W mb cap nb k i j) (h : Cut c ws W mb cap nb Z w) :
    Calls Tryz.prog 20 #[.pointer (some ⟨c, 0, none⟩), .int .i64 k, .int .i64 i, .int .i64 j] w (Res c ws W mb cap nb Z w (Dv ws k i j)) := by
  have hlen := h.len
  have hC0 := Cs.start h
  clear h
  by_cases hij : i < j
  · have hL := HL hij
    clear HL
    obtain ⟨hc, -, c1, c2, c3⟩ := hC0.1.cells
    have hat := tabAt_lt (n := ws.length) hk (i := i) (by omega) hj
    obtain ⟨v, d0, -, hmb, hv⟩ := hC0.1.cell hk (i := i) (by omega) hj
    obtain ⟨at_, ha⟩ : ∃ at_, at_ = tabAt ws.length k i j := ⟨_, rfl⟩
    obtain ⟨a1, ha1⟩ : ∃ a1, a1 = k * (ws.length + 1) := ⟨_, rfl⟩
    obtain ⟨a2, ha2⟩ : ∃ a2, a2 = (a1 + i) * (ws.length + 1) := ⟨_, rfl⟩
    have b1 : a1 ≤ 2410 := by rw [ha1]; exact Nat.le_trans (Nat.mul_le_mul hk (by omega : ws.length + 1 ≤ 241)) (by omega)
    have b2 : a2 ≤ 638650 := by rw [ha2]; exact Nat.le_trans (Nat.mul_le_mul (by omega : a1 + i ≤ 2650) (by omega : ws.length + 1 ≤ 241)) (by omega)
    have E1 : (k : Int) * ((ws.length : Int) + 1) = (a1 : Int) := by rw [ha1]; simp
    have E2 : ((a1 : Int) + (i : Int)) * ((ws.length : Int) + 1) = (a2 : Int) := by rw [ha2]; simp
    have E3 : (a2 : Int) + (j : Int) = (at_ : Int) := by rw [ha, ha2, ha1]; unfold tabAt; simp
    rw [← ha] at d0 hat
    have HAT : Hid (at_ = tabAt ws.length k i j) := ha
    obtain ⟨tn, htn⟩ : ∃ tn, tabN ws.length = tn := ⟨_, rfl⟩
    rw [htn] at c2 hat
    have HTN : Hid (tabN ws.length = tn) := htn
    clear ha ha1 ha2 htn
    rcases hv with rfl | ⟨rfl, hno⟩ | ⟨t, hD, hN⟩
    · go_enter Tryz.func20, Tryz.ntmps20
      go_wp2_with fail
      go_quiet (fail)
      go_wp2_with fail
      refine (hL _ (hC0.fr (by repeat (first | exact Fr.refl _ _ | (refine Fr.setCell ?_ (by first | exact .inl rfl | exact .inr (Nat.le_refl _) | (right; simp; omega)) _) | refine Fr.drewN ?_ _ | refine Fr.drew ?_ | refine Fr.alloc ?_ _))).1).mono ?_
      rintro e w1 ⟨p, rfl, hA, hC1⟩
      have hC2 := (hC0.fr (by repeat (first | exact Fr.refl _ _ | (refine Fr.setCell ?_ (by first | exact .inl rfl | exact .inr (Nat.le_refl _) | (right; simp; omega)) _) | refine Fr.drewN ?_ _ | refine Fr.drew ?_ | refine Fr.alloc ?_ _))).go hC1
      clear hC0 hC1 c1 c2 c3 hc d0 hmb
      obtain ⟨hc, -, c1, c2, c3⟩ := hC2.1.cells
      obtain ⟨v1, d1, f1, hmb, -⟩ := hC2.1.cell hk (i := i) (by omega) hj
      have hcm : c ≠ mb := hC2.1.cm
      have hmc : mb ≠ c := fun e => hcm e.symm
      rw [HTN.out] at c2
      rw [← HAT.out] at d1 f1
      rcases hA with ⟨rfl, hno⟩ | ⟨t, hD, hN⟩
      · have HNO : Hid (∀ t, ¬ Dv ws k i j t) := hno
        clear hno
        go_wp2_with fail
        go_region
        go_wp2_with fail
        rw [nil_ptr]
        go_wp2_with fail
        go_ret
        refine ⟨_, rfl, .inl ⟨rfl, HNO.out⟩, ?_⟩
        rw [HAT.out]
        have hC3 := hC2.put hk (i := i) (by omega) hj (v := .pointer none) (.inl rfl)
        first
          | exact (hC3.put hk (i := i) (by omega) hj (v := .pointer (some ⟨nb, 0, none⟩)) (.inr (.inl ⟨rfl, HNO.out⟩))).fr (Fr.drew (Fr.refl _ _))
          | exact ((hC3.fr (Fr.drew (Fr.refl _ _))).put hk (i := i) (by omega) hj (v := .pointer (some ⟨nb, 0, none⟩)) (.inr (.inl ⟨rfl, HNO.out⟩)))
      · obtain ⟨bt, rfl, hbt, hltt⟩ := hN.ptr
        have hne : bt ≠ nb := fun e => hbt (.inr (.inl e))
        have hC3 := hC2.put hk (by omega) hj (.inr (.inr ⟨t, hD, hN⟩))
        have hN3 := hN.cs (w' := w1.setCell ⟨mb, tabAt ws.length k i j, none⟩ (.pointer (some ⟨bt, 0, none⟩))) ((Fr.refl (fun b => b = mb) w1).setCell (p := ⟨mb, tabAt ws.length k i j, none⟩) (.inl rfl) _)
        rw [← HAT.out] at hC3 hN3
        have HQ := hC3.1.other hN3 hne
        have HQ' : Hid _ := HQ
        clear HQ
        go_wp2_with fail
        rw [HQ'.out]
        go_wp2_with fail
        go_ret
        exact ⟨_, rfl, .inr ⟨t, hD, hN3⟩, hC3⟩
    · have HNO : Hid (∀ t, ¬ Dv ws k i j t) := hno
      clear hno
      go_enter Tryz.func20, Tryz.ntmps20
      go_wp2_with fail
      go_quiet (fail)
      go_wp2_with fail
      rw [ptr_same]
      go_wp2_with fail
      go_ret
      exact ⟨_, rfl, .inl ⟨rfl, HNO.out⟩, hC0.fr (by repeat (first | exact Fr.refl _ _ | (refine Fr.setCell ?_ (by first | exact .inl rfl | exact .inr (Nat.le_refl _) | (right; simp; omega)) _) | refine Fr.drewN ?_ _ | refine Fr.drew ?_ | refine Fr.alloc ?_ _))⟩
    · obtain ⟨bt, rfl, hbt, hltt⟩ := hN.ptr
      have hne : bt ≠ nb := fun e => hbt (.inr (.inl e))
      go_enter Tryz.func20, Tryz.ntmps20
      go_wp2_with fail
      go_quiet (fail)
      go_wp2_with fail
      rw [(hC0.fr (by repeat (first | exact Fr.refl _ _ | (refine Fr.setCell ?_ (by first | exact .inl rfl | exact .inr (Nat.le_refl _) | (right; simp; omega)) _) | refine Fr.drewN ?_ _ | refine Fr.drew ?_ | refine Fr.alloc ?_ _))).1.other (hN.fr (by repeat (first | exact Fr.refl _ _ | (refine Fr.setCell ?_ (by first | exact .inl rfl | exact .inr (Nat.le_refl _) | (right; simp; omega)) _) | refine Fr.drewN ?_ _ | refine Fr.drew ?_ | refine Fr.alloc ?_ _))) hne]
      go_wp2_with fail
      go_ret
      exact ⟨_, rfl, .inr ⟨t, hD, hN.fr (by repeat (first | exact Fr.refl _ _ | (refine Fr.setCell ?_ (by first | exact .inl rfl | exact .inr (Nat.le_refl _) | (right; simp; omega)) _) | refine Fr.drewN ?_ _ | refine Fr.drew ?_ | refine Fr.alloc ?_ _))⟩, hC0.fr (by repeat (first | exact Fr.refl _ _ | (refine Fr.setCell ?_ (by first | exact .inl rfl | exact .inr (Nat.le_refl _) | (right; simp; omega)) _) | refine Fr.drewN ?_ _ | refine Fr.drew ?_ | refine Fr.alloc ?_ _))⟩
  · clear HL
    go_enter Tryz.func20, Tryz.ntmps20
    go_wp2_with fail
    go_ret
    refine ⟨_, rfl, .inl ⟨rfl, fun t ht => ?_⟩, hC0⟩
    have := Dv_lt ht
    omega
end Go.Proofs.YtnbhnjokpcdnnaaGreatDoor

namespace Go.Proofs.YtnbhnjokpcdnnaaGreatDoor
open Go.RowKit

theorem bExp_eq {ws : List RW} {R : Nat → Nat → Nat → Code → Prop} {i j : Nat} : bExp ws R i j = fun t => (if wd ws i [108, 101, 116] then bLet ws R i j t else if wd ws i [102, 110] then bFn ws R i j t else if wd ws i [105, 102] then bIf ws R i j t
  else if wd ws i [109, 97, 116, 99, 104] then bMatch ws R i j t else if wd ws i [116, 114, 121] then bTry ws R i j t else R 1 i j t) := rfl

theorem ended_cut {c : Nat} {ws : List RW} {W : Value} {mb cap nb m : Nat} {Z : Nat → Prop} {w : World} (IH : IsOk c ws W mb cap nb m) {i j : Nat} (hij : i < j) (hj : j ≤ ws.length) (hm : (j - i) * 11 ≤ m) (h : Cut c ws W mb cap nb Z w) :
    Calls Tryz.prog 85 #[.pointer (some ⟨c, 0, none⟩), .int .i64 i, .int .i64 j] w (Res c ws W mb cap nb Z w (if wd ws i [109, 97, 116, 99, 104] = true then bMatch ws (Dv ws) i j else bTry ws (Dv ws) i j)) := by
  cases he : wd ws (j - 1) [101, 110, 100] with
  | false =>
    refine ended_no hij hj h he fun t ht => ?_
    split at ht
    · have := ht.1; rw [he] at this; cases this
    · have := ht.1; rw [he] at this; cases this
  | true =>
    cases h1 : wd ws i [109, 97, 116, 99, 104] with
    | true => exact match_cut IH hij hj hm h he h1
    | false => exact try_cut IH hij hj hm h he h1

set_option maxHeartbeats 6400000 in
set_option maxRecDepth 100000 in
theorem exp_cut {c : Nat} {ws : List RW} {W : Value} {mb cap nb m : Nat} {Z : Nat → Prop} {w : World} (IH : IsOk c ws W mb cap nb m) {i j : Nat} (hij : i < j) (hj : j ≤ ws.length) (hm : (j - i) * 11 + 9 < m) (h : Cut c ws W mb cap nb Z w) :
    Calls Tryz.prog 68 #[.pointer (some ⟨c, 0, none⟩), .int .i64 i, .int .i64 j] w (Res c ws W mb cap nb Z w (bExp ws (Dv ws) i j)) := by
  have hlen := h.len
  have hC0 := Cs.start h
  clear h
  rw [bExp_eq]
  go_enter Tryz.func68, Tryz.ntmps68
  go_wp2_with fail
  refine (hC0.word i (by omega) (by omega) [108, 101, 116]).mono ?_
  rintro e w1 ⟨rfl, rfl⟩
  cases h1 : wd ws i [108, 101, 116] with
  | true =>
    go_wp2_with fail
    refine (let_cut IH hij hj (by omega) hC0.1).mono ?_
    rintro e w2 ⟨p, rfl, hA, hC⟩
    go_wp2_with fail
    all_goals
      go_ret
      exact ⟨_, rfl, hA, hC⟩
  | false =>
  go_wp2_with fail
  refine (hC0.word i (by omega) (by omega) [102, 110]).mono ?_
  rintro e w1 ⟨rfl, rfl⟩
  cases h2 : wd ws i [102, 110] with
  | true =>
    go_wp2_with fail
    refine (hC0.name (i + 1) (by omega) (by omega)).mono ?_
    rintro e w1 ⟨rfl, rfl⟩
    go_wp2_with fail
    refine (hC0.word (i + 2) (by omega) (by omega) [45, 62]).mono ?_
    rintro e w1 ⟨rfl, rfl⟩
    go_wp2_with fail
    refine (IH 0 (i + 3) j _ _ _ _ (by omega) (by omega) (by omega) (by omega) (by omega) (by omega) (by omega) hC0.1).mono ?_
    rintro e w2 ⟨pb, rfl, hB, hC⟩
    cases hx : isNm ws (i + 1) with
    | false =>
      go_wp2_with fail
      all_goals
        go_ret
        refine ⟨_, rfl, .inl ⟨rfl, fun t ht => ?_⟩, hC⟩
        have := ht.1
        rw [hx] at this
        cases this
    | true =>
      have HX : Hid (isNm ws (i + 1) = true) := hx
      clear hx
      cases hy : wd ws (i + 2) [45, 62] with
      | false =>
        go_wp2_with fail
        all_goals
          go_ret
          refine ⟨_, rfl, .inl ⟨rfl, fun t ht => ?_⟩, hC⟩
          have := ht.2.1
          rw [hy] at this
          cases this
      | true =>
        have HY : Hid (wd ws (i + 2) [45, 62] = true) := hy
        clear hy
        rcases hB with ⟨rfl, hno⟩ | ⟨tb, hDb, hNb⟩
        · have HNX : Hid (∀ t, ¬ Dv ws 0 (i + 3) j t) := hno
          clear hno
          go_wp2_with fail
          all_goals
            go_ret
            exact ⟨_, rfl, .inl ⟨rfl, fun t ⟨_, _, b, hb, _⟩ => HNX.out b hb⟩, hC⟩
        · obtain ⟨bb, rfl, hbb, hltb⟩ := hNb.ptr
          have HDb : Hid (Dv ws 0 (i + 3) j tb) := hDb
          clear hDb
          have hlt := Dv_lt HDb.out
          obtain ⟨lb, lc, hW, hlb, d0, -, -⟩ := hC.1.word (i := i + 1) (by omega)
          obtain ⟨hc, c0, -, -, -⟩ := hC.1.cells
          rw [hW] at c0
          clear hW
          obtain ⟨i1, hi1⟩ : ∃ i1, i1 = i + 1 := ⟨_, rfl⟩
          have hE : (i : Int) + 1 = (i1 : Int) := by omega
          have HI1 : Hid (i1 = i + 1) := hi1
          rw [← hi1] at d0
          have hi1' : i1 < ws.length := by omega
          clear hi1
          go_wp2_with fail
          all_goals
            go_ret
            refine ⟨_, rfl, .inr ⟨nd [102, 110] 0 (tx ws (i + 1)) [] [tb] [], ⟨HX.out, HY.out, tb, HDb.out, rfl⟩, ?_⟩, hC.fr (by repeat (first | exact Fr.refl _ _ | (refine Fr.setCell ?_ (by first | exact .inl rfl | exact .inr (Nat.le_refl _) | (right; simp; omega)) _) | refine Fr.drewN ?_ _ | refine Fr.drew ?_ | refine Fr.alloc ?_ _))⟩
            rw [HI1.out]
            exact hC.1.node2 (vs := [.pointer (some ⟨bb, 0, none⟩)]) (.cons hNb .nil) (by simp) (by simp) rfl
  | false =>
  go_wp2_with fail
  refine (hC0.word i (by omega) (by omega) [105, 102]).mono ?_
  rintro e w1 ⟨rfl, rfl⟩
  cases h3 : wd ws i [105, 102] with
  | true =>
    go_wp2_with fail
    refine (branch_cut IH hij hj (by omega) hC0.1).mono ?_
    rintro e w2 ⟨p, rfl, hA, hC⟩
    go_wp2_with fail
    all_goals
      go_ret
      exact ⟨_, rfl, hA, hC⟩
  | false =>
  go_wp2_with fail
  refine (hC0.word i (by omega) (by omega) [109, 97, 116, 99, 104]).mono ?_
  rintro e w1 ⟨rfl, rfl⟩
  cases h4 : wd ws i [109, 97, 116, 99, 104] with
  | true =>
    go_wp2_with fail
    refine (ended_cut IH hij hj (by omega) hC0.1).mono ?_
    rintro e w2 ⟨p, rfl, hA, hC⟩
    rw [if_pos h4] at hA
    go_wp2_with fail
    all_goals
      go_ret
      exact ⟨_, rfl, hA, hC⟩
  | false =>
  go_wp2_with fail
  refine (hC0.word i (by omega) (by omega) [116, 114, 121]).mono ?_
  rintro e w1 ⟨rfl, rfl⟩
  cases h5 : wd ws i [116, 114, 121] with
  | true =>
    go_wp2_with fail
    refine (ended_cut IH hij hj (by omega) hC0.1).mono ?_
    rintro e w2 ⟨p, rfl, hA, hC⟩
    rw [if_neg (by rw [h4]; simp)] at hA
    go_wp2_with fail
    all_goals
      go_ret
      exact ⟨_, rfl, hA, hC⟩
  | false =>
    go_wp2_with fail
    refine (IH 1 i j _ _ _ _ (by omega) (by omega) (by omega) (by omega) (by omega) (by omega) (by omega) hC0.1).mono ?_
    rintro e w2 ⟨p, rfl, hA, hC⟩
    go_wp2_with fail
    all_goals
      go_ret
      exact ⟨_, rfl, hA, hC⟩
end Go.Proofs.YtnbhnjokpcdnnaaGreatDoor

namespace Go.Proofs.YtnbhnjokpcdnnaaGreatDoor
open Go.RowKit

/-- A tree stays one where its blocks stay, also beside another set of blocks that holds none of them. -/
theorem Rp_any {w w' : World} {X X' : Nat → Prop} (hF : Fr X w w') (hX : ∀ b, b < w.heap.size → X' b → X b) : ∀ t : Code, (∀ p, (Rp w X t).1 p → (Rp w' X' t).1 p) ∧ (∀ l, (Rp w X t).2 l → (Rp w' X' t).2 l) := by
  intro t
  induction t with
  | cond c a b iha ihb =>
    cases c with
    | const v =>
      cases v with
      | tuple l =>
        refine ⟨?_, fun _ h => h⟩
        rintro p ⟨b0, k, n, nm, ow, vs, vp, cs, cp, h1, h2, h3, h4, h5, h6, h7, h8, h9, h10⟩
        have hb0 := (Array.getElem?_eq_some_iff.1 h4).1
        exact ⟨b0, k, n, nm, ow, vs, vp, cs, cp, h1, fun h => h2 (hX b0 hb0 h), h3, (hF.block b0 hb0 h2).trans h4, ownsRow_block h5 fun b hb => hF.block b (h5.lt b hb).2 (h6 b hb), fun b hb h => h6 b hb (hX b (h5.lt b hb).2 h), iha.2 _ h7, ownsRow_block h8 fun b hb => hF.block b (h8.lt b hb).2 (h9 b hb), fun b hb h => h9 b hb (hX b (h8.lt b hb).2 h), ihb.2 _ h10⟩
      | _ => exact ⟨fun _ h => h, fun _ h => h⟩
    | _ => exact ⟨fun _ h => h, fun _ h => h⟩
  | seq a l iha ihl =>
    refine ⟨fun _ h => h, ?_⟩
    rintro vs ⟨v, vs', h1, h2, h3⟩
    exact ⟨v, vs', h1, iha.1 _ h2, ihl.2 _ h3⟩
  | skip => exact ⟨fun _ h => h, fun _ h => h⟩
  | _ => exact ⟨fun _ h => h, fun _ h => h⟩

theorem Nd.any {w w' : World} {X X' : Nat → Prop} {t : Code} {p : Value} (h : Nd w X t p) (hF : Fr X w w') (hX : ∀ b, b < w.heap.size → X' b → X b) : Nd w' X' t p := (Rp_any hF hX t).1 p h
theorem Nds.any {w w' : World} {X X' : Nat → Prop} {l : List Code} {vs : List Value} (h : Nds w X l vs) (hF : Fr X w w') (hX : ∀ b, b < w.heap.size → X' b → X b) : Nds w' X' l vs := (Rp_any hF hX (toC l)).2 vs h

section
variable {c : Nat} {ws : List RW} {W : Value} {mb cap nb : Nat} {Z Z' : Nat → Prop} {w w' : World}

/-- The cutter stands, also beside another set of blocks that holds none of its trees'. -/
theorem Cut.any (h : Cut c ws W mb cap nb Z w) {O : Nat → Prop} (hF : Fr O w w') (hO : ∀ b, O b → Z b ∧ b ≠ c ∧ b ≠ mb ∧ b ≠ nb ∧ W.ownBlock ≠ some b) (hZ : ∀ b, b < w.heap.size → Z' b → Z b) (hz : ∀ b, Z' b → b < w'.heap.size) : Cut c ws W mb cap nb Z' w' := by
  obtain ⟨M, h1, h2⟩ := h.memo
  refine ⟨(hF.block c h.lt (fun e => (hO _ e).2.1 rfl)).trans h.blk, ownsRow_block h.row fun b hb => hF.block b (h.row.lt b hb).2 (fun e => (hO _ e).2.2.2.2 hb), h.wm, h.cm, h.nm, h.nbk' hF (fun e => (hO _ e).2.2.2.1 rfl), ⟨M, ownsRow_block h1 fun b hb => hF.block b (h1.lt b hb).2 (fun e => ?_), fun k i j hk hi hj => ?_⟩, h.len, hz⟩
  · cases hb
    exact (hO _ e).2.2.1 rfl
  · obtain ⟨v, h3, h4⟩ := h2 k i j hk hi hj
    refine ⟨v, h3, ?_⟩
    rcases h4 with h5 | h5 | ⟨t, h5, h6⟩
    · exact .inl h5
    · exact .inr (.inl h5)
    · refine .inr (.inr ⟨t, h5, h6.any (hF.mono (fun b hb => .inl (.inr (.inr (hO b hb).1)))) (fun b hb hx => ?_)⟩)
      rcases hx with hx | hx | hx
      · exact .inl hx
      · exact .inr (.inl hx)
      · exact .inr (.inr (hZ b hb hx))
end
end Go.Proofs.YtnbhnjokpcdnnaaGreatDoor
