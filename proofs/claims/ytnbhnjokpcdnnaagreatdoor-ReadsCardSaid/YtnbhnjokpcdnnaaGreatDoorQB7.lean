import Derived.Test.YtnbhnjokpcdnnaaGreatDoorQB6
import Derived.Deep.RegionLaw
set_option linter.unusedSimpArgs false
set_option linter.unusedVariables false

namespace Go.Proofs.YtnbhnjokpcdnnaaGreatDoor
open Go.RowKit

theorem Cut.node3 {c : Nat} {ws : List RW} {W : Value} {mb cap nb : Nat} {Z : Nat → Prop} {w : World} (h : Cut c ws W mb cap nb Z w) {k : List UInt8} {n : Int} {nm ow : List UInt8} {vs : List Value} {ts : List Code} (ht : Nds w (cX mb nb Z) ts vs) (hl : vs.length ≤ 10) {g q L : Nat} (hg : g = w.heap.size) (hq : q = w.heap.size + 1) (hL : L = vs.length) :
    Nd ((w.alloc (.cells vs.toArray 26)).alloc (.cells #[.string (bs k), .int .i64 n, .string (bs nm), .string (bs ow), .slice (some ⟨g, 0, none⟩) L L, .slice none 0 0] 70)).drew (cX mb nb Z) (nd k n nm ow ts []) (.pointer (some ⟨q, 0, none⟩)) := by
  subst hg
  exact (h.node2 ht hl hq hL).fr (Fr.drew (Fr.refl _ _))

/-- The first definition does not end at p. -/
def NoDef (ws : List RW) (i j p : Nat) : Prop := i + 4 ≤ p → ∀ b, Dv ws 0 (i + 3) p b → p ≠ j ∧ (p < j → wd ws p [97, 110, 100] = true → ∀ ds, ¬ Dv ws 10 (p + 1) j (nd [100, 101, 102, 115] 0 [] [] ds []))

theorem NoDef.all {ws : List RW} {i j : Nat} (h : ∀ p, p < j + 1 → NoDef ws i j p) (t : Code) : ¬ bDefs ws (Dv ws) i j t := by
  rintro ⟨g1, g2, g3, p, b, g4, g5, g6, ⟨g7, g8⟩ | ⟨g7, g8, ds, g9, g10⟩⟩
  · exact (h p (by omega) g4 b g6).1 g7
  · exact (h p (by omega) g4 b g6).2 g7 g8 ds g9

set_option maxHeartbeats 6400000 in
set_option maxRecDepth 100000 in
theorem defs_cut {c : Nat} {ws : List RW} {W : Value} {mb cap nb m : Nat} {Z : Nat → Prop} {w : World} (IH : IsOk c ws W mb cap nb m) {i j : Nat} (hij : i < j) (hj : j ≤ ws.length) (hm : (j - i) * 11 ≤ m) (h : Cut c ws W mb cap nb Z w) :
    Calls Tryz.prog 74 #[.pointer (some ⟨c, 0, none⟩), .int .i64 i, .int .i64 j] w (Res c ws W mb cap nb Z w (bDefs ws (Dv ws) i j)) := by
  have hlen := h.len
  have hC0 := Cs.start h
  clear h
  obtain ⟨i1, hi1⟩ : ∃ i1, i1 = i + 1 := ⟨_, rfl⟩
  have hE : (i : Int) + 1 = (i1 : Int) := by omega
  have HI1 : Hid (i1 = i + 1) := hi1
  have hi1' : i1 ≤ ws.length := by omega
  clear hi1
  go_enter Tryz.func74, Tryz.ntmps74
  go_wp2_with fail
  refine (hC0.name i (by omega) (by omega)).mono ?_
  rintro e w1 ⟨rfl, rfl⟩
  go_wp2_with fail
  refine (hC0.name (i + 1) (by omega) (by omega)).mono ?_
  rintro e w1 ⟨rfl, rfl⟩
  go_wp2_with fail
  refine (hC0.word (i + 2) (by omega) (by omega) [61]).mono ?_
  rintro e w1 ⟨rfl, rfl⟩
  cases h1 : isNm ws i
  · go_wp2_with fail
    go_ret
    refine ⟨_, rfl, .inl ⟨rfl, fun t h => ?_⟩, hC0⟩
    have h2 := h.1
    rw [h1] at h2
    cases h2
  cases h2 : isNm ws (i + 1)
  · go_wp2_with fail
    go_ret
    refine ⟨_, rfl, .inl ⟨rfl, fun t h => ?_⟩, hC0⟩
    have h3 := h.2.1
    rw [h2] at h3
    cases h3
  cases h3 : wd ws (i + 2) [61]
  · go_wp2_with fail
    go_ret
    refine ⟨_, rfl, .inl ⟨rfl, fun t h => ?_⟩, hC0⟩
    have h4 := h.2.2.1
    rw [h3] at h4
    cases h4
  have HB : Hid (isNm ws i = true ∧ isNm ws (i + 1) = true ∧ wd ws (i + 2) [61] = true) := ⟨h1, h2, h3⟩
  clear h1 h2 h3
  go_wp2_with fail
  go_loopg [10] (j + 1 - (i + 4)) (fun m pv wr => ∃ p : Nat, pv = .int .i64 p ∧ i + 4 ≤ p ∧ p ≤ j + 4 ∧ m = j + 1 - p ∧ Cs c ws W mb cap nb Z w1 wr ∧ ∀ q, q < p → NoDef ws i j q)
  case atStart => exact ⟨i + 4, by go_num, Nat.le_refl _, by omega, by omega, hC0, fun p h1 h2 => by omega⟩
  case round =>
    clear hC0
    obtain ⟨p, rfl, hp1, hp2, hgk, hC, hst⟩ := hrel
    have HM : Hid (gk = j + 1 - p) := hgk
    have HNO : Hid (∀ q, q < p → NoDef ws i j q) := hst
    clear hgk hst
    by_cases hpj : p ≤ j
    · go_wp2_with fail
      refine (hC.word p (by omega) (by omega) [97, 110, 100]).mono ?_
      rintro e w2 ⟨rfl, rfl⟩
      by_cases hlt : p < j
      · cases hx : wd ws p [97, 110, 100]
        · go_wp2_with fail
          go_roundg (j + 1 - (p + 1))
          case measure => rw [HM.out]; omega
          case rel => exact ⟨p + 1, by go_num, by omega, by omega, rfl, hC, no_ext HNO.out (fun _ b hb => ⟨by omega, fun _ h => (by rw [hx] at h; cases h)⟩)⟩
        · have HS : Hid (wd ws p [97, 110, 100] = true) := hx
          clear hx
          go_wp2_with fail
          refine (IH 0 (i + 3) p _ _ _ _ (by omega) (by omega) (by omega) (by omega) (by omega) (by omega) (by omega) hC.1).mono ?_
          rintro e w3 ⟨pb, rfl, hB, hC2⟩
          have hC3 := hC.go hC2
          clear hC hC2
          rcases hB with ⟨rfl, hno⟩ | ⟨tb, hDb, hNb⟩
          · have HNX : Hid (∀ t, ¬ Dv ws 0 (i + 3) p t) := hno
            clear hno
            go_wp2_with fail
            go_roundg (j + 1 - (p + 1))
            case measure => rw [HM.out]; omega
            case rel => exact ⟨p + 1, by go_num, by omega, by omega, rfl, hC3, no_ext HNO.out (fun _ b hb => (HNX.out b hb).elim)⟩
          · obtain ⟨bb, rfl, hbb, hltb⟩ := hNb.ptr
            have HDb : Hid (Dv ws 0 (i + 3) p tb) := hDb
            clear hDb
            obtain ⟨lb, lc, hW, hlb, d0, -, -⟩ := hC3.1.word (i := i) (by omega)
            obtain ⟨lb', lc', hW', hlb', d1, -, -⟩ := hC3.1.word (i := i + 1) (by omega)
            obtain ⟨hc, c0, -, -, -⟩ := hC3.1.cells
            rw [hW] at c0 hW'
            cases hW'
            clear hW
            have HNn : Hid (Nd ((w3.alloc (.cells #[.pointer (some ⟨bb, 0, none⟩)] 26)).alloc (.cells #[.string (bs [100, 101, 102]), .int .i64 0, .string (bs (tx ws i1)), .string (bs (tx ws i)), .slice (some ⟨w3.heap.size, 0, none⟩) 1 1, .slice none 0 0] 70)) (cX mb nb Z) (nd [100, 101, 102] 0 (tx ws i1) (tx ws i) [tb] []) (.pointer (some ⟨w3.heap.size + 1, 0, none⟩))) :=
              hC3.1.node2 (vs := [.pointer (some ⟨bb, 0, none⟩)]) (ts := [tb]) (.cons hNb .nil) (by simp) rfl rfl
            rw [← HI1.out] at d1
            have hi1'' : i1 < ws.length := by omega
            obtain ⟨y1, hy1⟩ : ∃ y1, y1 = tx ws i1 := ⟨_, rfl⟩
            have HY : Hid (tx ws (i + 1) = y1) := by rw [← HI1.out]; exact hy1.symm
            rw [← hy1] at d1 HNn
            clear hy1
            go_wp2_with fail
            go_region
            go_wp2_with fail
            refine (IH 10 (p + 1) j _ _ _ _ (by omega) (by omega) (by omega) (by omega) (by omega) (by omega) (by omega) (hC3.fr (by repeat (first | exact Fr.refl _ _ | (refine Fr.setCell ?_ (by first | exact .inl rfl | exact .inr (Nat.le_refl _) | (right; simp; omega)) _) | refine Fr.drewN ?_ _ | refine Fr.drew ?_ | refine Fr.alloc ?_ _))).1).mono ?_
            rintro e w4 ⟨pm, rfl, hD, hC4⟩
            have hNn4 := (HNn.out.fr (Fr.drew (Fr.refl _ _))).cs hC4.2
            have hC5 := (hC3.fr (by repeat (first | exact Fr.refl _ _ | (refine Fr.setCell ?_ (by first | exact .inl rfl | exact .inr (Nat.le_refl _) | (right; simp; omega)) _) | refine Fr.drewN ?_ _ | refine Fr.drew ?_ | refine Fr.alloc ?_ _))).go hC4
            clear hC3 hC4 hNb HNn c0 d0 d1
            rcases hD with ⟨rfl, hno⟩ | ⟨tm, hDm, hNm⟩
            · have HNX : Hid (∀ t, ¬ Dv ws 10 (p + 1) j t) := hno
              clear hno
              go_wp2_with fail
              go_roundg (j + 1 - (p + 1))
              case measure => rw [HM.out]; omega
              case rel => exact ⟨p + 1, by go_num, by omega, by omega, rfl, hC5, no_ext HNO.out (fun _ b hb => ⟨by omega, fun _ _ ds h => HNX.out _ h⟩)⟩
            · obtain ⟨bm, rfl, hbm, hltm⟩ := hNm.ptr
              obtain ⟨ds, rfl, hd1, hd2⟩ := Dv_defs _ _ _ _ (Nat.le_refl _) hDm
              have HDm : Hid (Dv ws 10 (p + 1) j (nd [100, 101, 102, 115] 0 [] [] ds [])) := hDm
              obtain ⟨vs, vp, cs, cp, -, k4, -, hrow, hrX, hds, hcl, -⟩ := hNm.rows
              obtain ⟨g, gc, rfl, hgl, hgc⟩ := row_form (hrow.alloc (.cells #[.pointer (some ⟨w3.heap.size + 1, 0, none⟩)] 26)) hd1
              have HT : Hid (Nds w4 (cX mb nb Z) (nd [100, 101, 102] 0 y1 (tx ws i) [tb] [] :: ds) (.pointer (some ⟨w3.heap.size + 1, 0, none⟩) :: cs)) := .cons hNn4 hds
              have HO : Hid (∀ u ∈ cs, u.oneCell' = true) := hds.one
              have HG : Hid (∀ j u, cs[j]? = some u → (w4.alloc (.cells #[.pointer (some ⟨w3.heap.size + 1, 0, none⟩)] 26)).cell? ((⟨g, 0, none⟩ : Addr).add j) = some u) := hgc
              clear hDm hNm hrow hrX hgc hds hNn4
              have hpl : j ≤ 240 := by omega
              go_wp2_with (at_builtin; refine wpList_app slPE rfl (.tmp 95) (.tmp 99) rfl w4.heap.size 1 [.pointer (some ⟨w3.heap.size + 1, 0, none⟩)] _ rfl (World.ownsRow_lit (base := w4.heap.size) (e := 26) (size := 1) w4 #[.pointer (some ⟨w3.heap.size + 1, 0, none⟩)] 1 (Nat.le_refl _) (by unfold maxLen; omega) rfl) ⟨g, 0, none⟩ ds.length gc cs rfl ?l1 ?c1 ?c2 ?m0 ?b1 ?b2 ?b3 ?grow)
              case l1 => omega
              case c1 => exact HG.out
              case c2 => exact HO.out
              case m0 => omega
              case b1 => unfold maxLen; omega
              case b2 => omega
              case b3 => simp
              case grow =>
                intro v' w5 hown hgrow hv g' cap' hfm
                subst hfm
                have HF5 : Hid (Fr (fun _ => False) w4 w5) := ((Fr.refl _ w4).alloc _).grown hgrow (fun k hk => by cases hk; exact .inr (Nat.le_refl _))
                have HO2 : Hid (w5.ownsRow w4.heap.size 26 1 (.slice (some ⟨g', 0, none⟩) (1 + ds.length) cap') (1 + ds.length) (.pointer (some ⟨w3.heap.size + 1, 0, none⟩) :: cs)) := hown
                clear hown hgrow hv
                go_wp2_with fail
                refine (of_cut _ _ _ _ _).mono ?_
                rintro e w7 ⟨rfl, rfl⟩
                go_wp2_with fail
                go_ret
                refine ⟨_, rfl, .inr ⟨nd [100, 101, 102, 115] 0 [] [] (nd [100, 101, 102] 0 y1 (tx ws i) [tb] [] :: ds) [], ⟨HB.out.1, HB.out.2.1, HB.out.2.2, p, tb, hp1, hpj, HDb.out, .inr ⟨hlt, HS.out, ds, HDm.out, by rw [HY.out]⟩⟩, ?_⟩, hC5.fr (HF5.out.alloc _)⟩
                exact hC5.1.nodeR (HF5.out.alloc _) (HO2.out.alloc _) (by simp; omega) HT.out (World.ownsRow_nil _ _ _ _) rfl (fun b hb => by cases hb) Nds.nil HF5.out.size (blk_at _ rfl)
      · obtain rfl : p = j := by omega
        go_wp2_with fail
        refine (IH 0 (i + 3) p _ _ _ _ (by omega) (by omega) (by omega) (by omega) (by omega) (by omega) (by omega) hC.1).mono ?_
        rintro e w3 ⟨pb, rfl, hB, hC2⟩
        have hC3 := hC.go hC2
        clear hC hC2
        rcases hB with ⟨rfl, hno⟩ | ⟨tb, hDb, hNb⟩
        · have HNX : Hid (∀ t, ¬ Dv ws 0 (i + 3) p t) := hno
          clear hno
          go_wp2_with fail
          go_roundg (p + 1 - (p + 1))
          case measure => rw [HM.out]; omega
          case rel => exact ⟨p + 1, by go_num, by omega, by omega, rfl, hC3, no_ext HNO.out (fun _ b hb => (HNX.out b hb).elim)⟩
        · obtain ⟨bb, rfl, hbb, hltb⟩ := hNb.ptr
          have HDb : Hid (Dv ws 0 (i + 3) p tb) := hDb
          clear hDb
          obtain ⟨lb, lc, hW, hlb, d0, -, -⟩ := hC3.1.word (i := i) (by omega)
          obtain ⟨lb', lc', hW', hlb', d1, -, -⟩ := hC3.1.word (i := i + 1) (by omega)
          obtain ⟨hc, c0, -, -, -⟩ := hC3.1.cells
          rw [hW] at c0 hW'
          cases hW'
          clear hW
          have HNn : Hid (Nd ((w3.alloc (.cells #[.pointer (some ⟨bb, 0, none⟩)] 26)).alloc (.cells #[.string (bs [100, 101, 102]), .int .i64 0, .string (bs (tx ws i1)), .string (bs (tx ws i)), .slice (some ⟨w3.heap.size, 0, none⟩) 1 1, .slice none 0 0] 70)) (cX mb nb Z) (nd [100, 101, 102] 0 (tx ws i1) (tx ws i) [tb] []) (.pointer (some ⟨w3.heap.size + 1, 0, none⟩))) :=
            hC3.1.node2 (vs := [.pointer (some ⟨bb, 0, none⟩)]) (ts := [tb]) (.cons hNb .nil) (by simp) rfl rfl
          rw [← HI1.out] at d1
          have hi1'' : i1 < ws.length := by omega
          obtain ⟨y1, hy1⟩ : ∃ y1, y1 = tx ws i1 := ⟨_, rfl⟩
          have HY : Hid (tx ws (i + 1) = y1) := by rw [← HI1.out]; exact hy1.symm
          rw [← hy1] at d1 HNn
          clear hy1
          have HC4 : Hid (Cs c ws W mb cap nb Z w1 ((w3.alloc (.cells #[.pointer (some ⟨bb, 0, none⟩)] 26)).alloc (.cells #[.string (bs [100, 101, 102]), .int .i64 0, .string (bs y1), .string (bs (tx ws i)), .slice (some ⟨w3.heap.size, 0, none⟩) 1 1, .slice none 0 0] 70))) := hC3.fr (by repeat (first | exact Fr.refl _ _ | (refine Fr.setCell ?_ (by first | exact .inl rfl | exact .inr (Nat.le_refl _) | (right; simp; omega)) _) | refine Fr.drewN ?_ _ | refine Fr.drew ?_ | refine Fr.alloc ?_ _))
          go_wp2_with fail
          go_region
          go_wp2_with fail
          refine (of_cut _ _ _ _ _).mono ?_
          rintro e w7 ⟨rfl, rfl⟩
          go_wp2_with fail
          go_ret
          refine ⟨_, rfl, .inr ⟨nd [100, 101, 102, 115] 0 [] [] [nd [100, 101, 102] 0 y1 (tx ws i) [tb] []] [], ⟨HB.out.1, HB.out.2.1, HB.out.2.2, p, tb, hp1, hpj, HDb.out, .inl ⟨rfl, by rw [HY.out]⟩⟩, ?_⟩, hC3.fr (by repeat (first | exact Fr.refl _ _ | (refine Fr.setCell ?_ (by first | exact .inl rfl | exact .inr (Nat.le_refl _) | (right; simp; omega)) _) | refine Fr.drewN ?_ _ | refine Fr.drew ?_ | refine Fr.alloc ?_ _))⟩
          exact HC4.out.1.node3 (vs := [.pointer (some ⟨w3.heap.size + 1, 0, none⟩)]) (.cons HNn.out .nil) (by simp) (g := w3.heap.size + 1 + 1) (q := w3.heap.size + 1 + 1 + 1) (by simp) (by simp) rfl
    · go_wp2_with fail
      go_ret
      exact ⟨_, rfl, .inl ⟨rfl, NoDef.all (fun q hq => HNO.out q (by omega))⟩, hC⟩
end Go.Proofs.YtnbhnjokpcdnnaaGreatDoor

namespace Go.Proofs.YtnbhnjokpcdnnaaGreatDoor
open Go.RowKit

def NoTry (ws : List RW) (i j p : Nat) : Prop := i + 2 ≤ p → wd ws p [119, 105, 116, 104] = true → ∀ a, Dv ws 0 (i + 1) p a → isNm ws (p + 1) = true → wd ws (p + 2) [45, 62] = true → ∀ b, ¬ Dv ws 0 (p + 3) (j - 1) b

theorem NoTry.all {ws : List RW} {i j : Nat} (h : ∀ p, p < j → NoTry ws i j p) (t : Code) : ¬ bTry ws (Dv ws) i j t := by
  rintro ⟨_, p, a, b, g1, g2, g3, g4, g5, g6, g7, g8⟩
  exact h p g2 g1 g3 a g4 g5 g6 b g7

set_option maxHeartbeats 6400000 in
set_option maxRecDepth 100000 in
theorem try_cut {c : Nat} {ws : List RW} {W : Value} {mb cap nb m : Nat} {Z : Nat → Prop} {w : World} (IH : IsOk c ws W mb cap nb m) {i j : Nat} (hij : i < j) (hj : j ≤ ws.length) (hm : (j - i) * 11 ≤ m) (h : Cut c ws W mb cap nb Z w) (hend : wd ws (j - 1) [101, 110, 100] = true) (hmt : wd ws i [109, 97, 116, 99, 104] = false) :
    Calls Tryz.prog 85 #[.pointer (some ⟨c, 0, none⟩), .int .i64 i, .int .i64 j] w (Res c ws W mb cap nb Z w (bTry ws (Dv ws) i j)) := by
  have hlen := h.len
  have hC0 := Cs.start h
  have HE : Hid (wd ws (j - 1) [101, 110, 100] = true) := hend
  have HMT : Hid (wd ws i [109, 97, 116, 99, 104] = false) := hmt
  clear h hend hmt
  go_enter Tryz.func85, Tryz.ntmps85
  go_wp2_with fail
  refine (hC0.word (j - 1) (by omega) (by omega) [101, 110, 100]).mono ?_
  rintro e w1 ⟨rfl, rfl⟩
  rw [HE.out]
  go_wp2_with fail
  refine (hC0.word i (by omega) (by omega) [109, 97, 116, 99, 104]).mono ?_
  rintro e w1 ⟨rfl, rfl⟩
  rw [HMT.out]
  go_wp2_with fail
  go_loopg [9] (j - (i + 2)) (fun m pv wr => ∃ p : Nat, pv = .int .i64 p ∧ i + 2 ≤ p ∧ p ≤ j + 1 ∧ m = j - p ∧ Cs c ws W mb cap nb Z w1 wr ∧ ∀ q, q < p → NoTry ws i j q)
  case atStart => exact ⟨i + 2, by go_num, Nat.le_refl _, by omega, by omega, hC0, fun p h1 h2 => by omega⟩
  case round =>
    clear hC0
    obtain ⟨p, rfl, hp1, hp2, hgk, hC, hst⟩ := hrel
    have HM : Hid (gk = j - p) := hgk
    have HNO : Hid (∀ q, q < p → NoTry ws i j q) := hst
    clear hgk hst
    by_cases hpj : p < j
    · go_wp2_with fail
      refine (hC.word p (by omega) (by omega) [119, 105, 116, 104]).mono ?_
      rintro e w2 ⟨rfl, rfl⟩
      cases hx : wd ws p [119, 105, 116, 104]
      · go_wp2_with fail
        go_roundg (j - (p + 1))
        case measure => rw [HM.out]; omega
        case rel => exact ⟨p + 1, by go_num, by omega, by omega, rfl, hC, no_ext HNO.out (fun _ h => by rw [hx] at h; cases h)⟩
      · have HS : Hid (wd ws p [119, 105, 116, 104] = true) := hx
        clear hx
        go_wp2_with fail
        refine (IH 0 (i + 1) p _ _ _ _ (by omega) (by omega) (by omega) (by omega) (by omega) (by omega) (by omega) hC.1).mono ?_
        rintro e w3 ⟨pa, rfl, hA, hC2⟩
        have hC3 := hC.go hC2
        clear hC hC2
        rcases hA with ⟨rfl, hno⟩ | ⟨ta, hDa, hNa⟩
        · have HNX : Hid (∀ t, ¬ Dv ws 0 (i + 1) p t) := hno
          clear hno
          go_wp2_with fail
          go_roundg (j - (p + 1))
          case measure => rw [HM.out]; omega
          case rel => exact ⟨p + 1, by go_num, by omega, by omega, rfl, hC3, no_ext HNO.out (fun _ _ a h => (HNX.out a h).elim)⟩
        · obtain ⟨ba, rfl, hba, hlta⟩ := hNa.ptr
          have HDa : Hid (Dv ws 0 (i + 1) p ta) := hDa
          clear hDa
          go_wp2_with fail
          refine (hC3.name (p + 1) (by omega) (by omega)).mono ?_
          rintro e w4 ⟨rfl, rfl⟩
          go_wp2_with fail
          refine (hC3.word (p + 2) (by omega) (by omega) [45, 62]).mono ?_
          rintro e w4 ⟨rfl, rfl⟩
          go_wp2_with fail
          refine (IH 0 (p + 3) (j - 1) _ _ _ _ (by omega) (by omega) (by omega) (by omega) (by omega) (by omega) (by omega) hC3.1).mono ?_
          rintro e w5 ⟨pb, rfl, hB, hC4⟩
          have hNa4 := hNa.cs hC4.2
          have hC5 := hC3.go hC4
          clear hC3 hC4 hNa
          cases hx : isNm ws (p + 1) with
          | false =>
            go_wp2_with fail
            go_roundg (j - (p + 1))
            case measure => rw [HM.out]; omega
            case rel => exact ⟨p + 1, by go_num, by omega, by omega, rfl, hC5, no_ext HNO.out (fun _ _ a _ h => (by rw [hx] at h; cases h))⟩
          | true =>
            have HX : Hid (isNm ws (p + 1) = true) := hx
            clear hx
            cases hy : wd ws (p + 2) [45, 62] with
            | false =>
              go_wp2_with fail
              go_roundg (j - (p + 1))
              case measure => rw [HM.out]; omega
              case rel => exact ⟨p + 1, by go_num, by omega, by omega, rfl, hC5, no_ext HNO.out (fun _ _ a _ _ h => (by rw [hy] at h; cases h))⟩
            | true =>
              have HY : Hid (wd ws (p + 2) [45, 62] = true) := hy
              clear hy
              rcases hB with ⟨rfl, hno⟩ | ⟨tb, hDb, hNb⟩
              · have HNX : Hid (∀ t, ¬ Dv ws 0 (p + 3) (j - 1) t) := hno
                clear hno
                go_wp2_with fail
                go_roundg (j - (p + 1))
                case measure => rw [HM.out]; omega
                case rel => exact ⟨p + 1, by go_num, by omega, by omega, rfl, hC5, no_ext HNO.out (fun _ _ a _ _ _ => HNX.out)⟩
              · obtain ⟨bb, rfl, hbb, hltb⟩ := hNb.ptr
                have HDb : Hid (Dv ws 0 (p + 3) (j - 1) tb) := hDb
                clear hDb
                have hlt := Dv_lt HDb.out
                obtain ⟨lb, lc, hW, hlb, d0, -, -⟩ := hC5.1.word (i := p + 1) (by omega)
                obtain ⟨hc, c0, -, -, -⟩ := hC5.1.cells
                rw [hW] at c0
                clear hW
                obtain ⟨i1, hi1⟩ : ∃ i1, i1 = p + 1 := ⟨_, rfl⟩
                have hE : (p : Int) + 1 = (i1 : Int) := by omega
                have HI1 : Hid (i1 = p + 1) := hi1
                rw [← hi1] at d0
                have hi1' : i1 < ws.length := by omega
                clear hi1
                go_wp2_with fail
                go_ret
                refine ⟨_, rfl, .inr ⟨nd [116, 114, 121] 0 (tx ws (p + 1)) [] [ta, tb] [], ⟨HE.out, p, ta, tb, hp1, hpj, HS.out, HDa.out, HX.out, HY.out, HDb.out, rfl⟩, ?_⟩, hC5.fr (by repeat (first | exact Fr.refl _ _ | (refine Fr.setCell ?_ (by first | exact .inl rfl | exact .inr (Nat.le_refl _) | (right; simp; omega)) _) | refine Fr.drewN ?_ _ | refine Fr.drew ?_ | refine Fr.alloc ?_ _))⟩
                rw [HI1.out]
                exact hC5.1.node2 (vs := [.pointer (some ⟨ba, 0, none⟩), .pointer (some ⟨bb, 0, none⟩)]) (.cons hNa4 (.cons hNb .nil)) (by simp) (by simp) rfl
    · go_wp2_with fail
      go_ret
      exact ⟨_, rfl, .inl ⟨rfl, NoTry.all (fun q hq => HNO.out q (by omega))⟩, hC⟩

set_option maxHeartbeats 6400000 in
set_option maxRecDepth 100000 in
theorem ended_no {c : Nat} {ws : List RW} {W : Value} {mb cap nb : Nat} {Z : Nat → Prop} {w : World} {i j : Nat} (hij : i < j) (hj : j ≤ ws.length) (h : Cut c ws W mb cap nb Z w) (hend : wd ws (j - 1) [101, 110, 100] = false) {B : Code → Prop} (hB : ∀ t, ¬ B t) :
    Calls Tryz.prog 85 #[.pointer (some ⟨c, 0, none⟩), .int .i64 i, .int .i64 j] w (Res c ws W mb cap nb Z w B) := by
  have hlen := h.len
  have hC0 := Cs.start h
  have HE : Hid (wd ws (j - 1) [101, 110, 100] = false) := hend
  have HB : Hid (∀ t, ¬ B t) := hB
  clear h hend hB
  go_enter Tryz.func85, Tryz.ntmps85
  go_wp2_with fail
  refine (hC0.word (j - 1) (by omega) (by omega) [101, 110, 100]).mono ?_
  rintro e w1 ⟨rfl, rfl⟩
  rw [HE.out]
  go_wp2_with fail
  refine (hC0.word i (by omega) (by omega) [109, 97, 116, 99, 104]).mono ?_
  rintro e w1 ⟨rfl, rfl⟩
  go_wp2_with fail
  go_loopg [9] 0 (fun m pv wr => m = 0 ∧ pv = .int .i64 ((i : Int) + 2) ∧ wr = w1)
  case atStart => exact ⟨rfl, by go_num, rfl⟩
  case round =>
    obtain ⟨-, rfl, rfl⟩ := hrel
    by_cases hpj : i + 2 < j
    all_goals
      go_wp2_with fail
      go_ret
      exact ⟨_, rfl, .inl ⟨rfl, HB.out⟩, hC0⟩

end Go.Proofs.YtnbhnjokpcdnnaaGreatDoor
