import Derived.Test.YtnbhnjokpcdnnaaGreatDoorQB5
set_option linter.unusedSimpArgs false
set_option linter.unusedVariables false

namespace Go.Proofs.YtnbhnjokpcdnnaaGreatDoor
open Go.RowKit

/-- What app is where no word of its own begins it. -/
def bCall (ws : List RW) (R : Nat → Nat → Nat → Code → Prop) (i j : Nat) (t : Code) : Prop :=
  if wd ws i [116, 104, 114, 111, 119] then (∃ p a b, i < p ∧ p < j ∧ R 6 p j b ∧ R 6 (i + 1) p a ∧ t = nd [116, 104, 114, 111, 119] 0 [] [] [a, b] []) ∨ R 6 i j t
  else (∃ p a b, i < p ∧ p < j ∧ R 6 p j b ∧ R 5 i p a ∧ t = nd [99, 97, 108, 108] 0 [] [] [a, b] []) ∨ R 6 i j t

theorem bApp_pre {ws : List RW} {R : Nat → Nat → Nat → Code → Prop} {i j : Nat} (h : isPre ws i = true) : bApp ws R i j = fun t => ∃ a, R 6 (i + 1) j a ∧ t = nd (tx ws i) 0 [] [] [a] [] := by
  funext t
  unfold bApp
  rw [if_pos h]

theorem bApp_no {ws : List RW} {R : Nat → Nat → Nat → Code → Prop} {i j : Nat} (h : isPre ws i = false) : bApp ws R i j = bCall ws R i j := by
  funext t
  unfold bApp bCall
  rw [if_neg (by rw [h]; simp)]

/-- No cut before q makes a call of it. -/
def NoCall (ws : List RW) (i j p : Nat) : Prop := i < p → ∀ b, Dv ws 6 p j b → (wd ws i [116, 104, 114, 111, 119] = true → ∀ a, ¬ Dv ws 6 (i + 1) p a) ∧ (wd ws i [116, 104, 114, 111, 119] = false → ∀ a, ¬ Dv ws 5 i p a)

set_option maxHeartbeats 6400000 in
set_option maxRecDepth 100000 in
theorem app_cut {c : Nat} {ws : List RW} {W : Value} {mb cap nb m : Nat} {Z : Nat → Prop} {w : World} (IH : IsOk c ws W mb cap nb m) {i j : Nat} (hij : i < j) (hj : j ≤ ws.length) (hm : (j - i) * 11 + 4 < m) (h : Cut c ws W mb cap nb Z w) :
    Calls Tryz.prog 70 #[.pointer (some ⟨c, 0, none⟩), .int .i64 i, .int .i64 j] w (Res c ws W mb cap nb Z w (bApp ws (Dv ws) i j)) := by
  have hlen := h.len
  have hC0 := Cs.start h
  obtain ⟨lb, lc, hW, hlb, d0, -, d2⟩ := h.word (i := i) (by omega)
  obtain ⟨hc, c0, -, -, -⟩ := h.cells
  rw [hW] at c0
  clear hW h
  cases hp : isPre ws i with
  | true =>
    rw [bApp_pre hp]
    have hp' : (wAt ws i).isName = false ∧ ((tx ws i == [114, 97, 105, 115, 101]) = true ∨ (tx ws i == [99, 97, 108, 108, 99, 99]) = true ∨ (tx ws i == [112, 114, 105, 110, 116]) = true) := by
      simpa [isPre, or_assoc] using hp
    clear hp
    generalize tx ws i = y at *
    obtain ⟨hn, hy⟩ := hp'
    rw [hn] at d2
    clear hn
    have hy' : (y == [114, 97, 105, 115, 101]) = true ∨ ((y == [114, 97, 105, 115, 101]) = false ∧ (y == [99, 97, 108, 108, 99, 99]) = true) ∨ ((y == [114, 97, 105, 115, 101]) = false ∧ (y == [99, 97, 108, 108, 99, 99]) = false ∧ (y == [112, 114, 105, 110, 116]) = true) := by
      cases e1 : (y == [114, 97, 105, 115, 101]) <;> cases e2 : (y == [99, 97, 108, 108, 99, 99]) <;> cases e3 : (y == [112, 114, 105, 110, 116]) <;> simp [e1, e2, e3] at hy ⊢
    clear hy
    rcases hy' with e1 | ⟨e1, e2⟩ | ⟨e1, e2, e3⟩
    all_goals
      go_enter Tryz.func70, Tryz.ntmps70
      go_wp2_with fail
      refine (IH 6 (i + 1) j _ _ _ _ (by omega) (by omega) (by omega) (by omega) (by omega) (by omega) (by omega) hC0.1).mono ?_
      rintro e w1 ⟨p0, rfl, hA, hC1⟩
      rcases hA with ⟨rfl, hno⟩ | ⟨t, hD, hN⟩
      · have HNO : Hid (∀ t, ¬ Dv ws 6 (i + 1) j t) := hno
        clear hno
        go_wp2_with fail
        go_ret
        exact ⟨_, rfl, .inl ⟨rfl, fun t ⟨a, h1, h2⟩ => HNO.out a h1⟩, hC1⟩
      · obtain ⟨b, rfl, hb, hlt⟩ := hN.ptr
        go_wp2_with fail
        refine (of_cut _ _ _ _ _).mono ?_
        rintro e w6 ⟨rfl, rfl⟩
        go_wp2_with fail
        go_ret
        refine ⟨_, rfl, .inr ⟨_, ⟨t, hD, rfl⟩, ?_⟩, hC1.fr (by repeat (first | exact Fr.refl _ _ | (refine Fr.setCell ?_ (by first | exact .inl rfl | exact .inr (Nat.le_refl _) | (right; simp; omega)) _) | refine Fr.drewN ?_ _ | refine Fr.drew ?_ | refine Fr.alloc ?_ _))⟩
        exact hC1.1.node2 (vs := [.pointer (some ⟨b, 0, none⟩)]) (.cons hN .nil) (by simp) (by simp) rfl
  | false =>
    rw [bApp_no hp]
    have hy' : (wAt ws i).isName = true ∨ ((wAt ws i).isName = false ∧ (tx ws i == [114, 97, 105, 115, 101]) = false ∧ (tx ws i == [99, 97, 108, 108, 99, 99]) = false ∧ (tx ws i == [112, 114, 105, 110, 116]) = false) := by
      unfold isPre at hp
      cases e0 : (wAt ws i).isName <;> cases e1 : (tx ws i == [114, 97, 105, 115, 101]) <;> cases e2 : (tx ws i == [99, 97, 108, 108, 99, 99]) <;> cases e3 : (tx ws i == [112, 114, 105, 110, 116]) <;> simp [e0, e1, e2, e3] at hp ⊢
    clear hp
    generalize tx ws i = y at *
    rcases hy' with e0 | ⟨e0, e1, e2, e3⟩
    all_goals
      rw [e0] at d2
      clear e0
      go_enter Tryz.func70, Tryz.ntmps70
      go_wp2_with fail
      refine (hC0.word i (by omega) (by omega) [116, 104, 114, 111, 119]).mono ?_
      rintro e w1 ⟨rfl, rfl⟩
      cases hth : wd ws i [116, 104, 114, 111, 119] with
      | true =>
        have HTH : Hid (wd ws i [116, 104, 114, 111, 119] = true) := hth
        clear hth
        go_wp2_with fail
        go_loopg [10] (j - (i + 1)) (fun m pv wr => ∃ q : Nat, pv = .int .i64 q ∧ i + 1 ≤ q ∧ q ≤ j ∧ m = j - q ∧ Cs c ws W mb cap nb Z w1 wr ∧ ∀ p, p < q → NoCall ws i j p)
        case atStart => exact ⟨i + 1, by go_num, Nat.le_refl _, by omega, by omega, hC0, fun p h1 h2 => by omega⟩
        case round =>
          clear hC0
          obtain ⟨q, rfl, hq1, hq2, hgk, hC, hst⟩ := hrel
          have HM : Hid (gk = j - q) := hgk
          have HNO : Hid (∀ p, p < q → NoCall ws i j p) := hst
          clear hgk hst
          by_cases hqj : q < j
          · go_wp2_with fail
            refine (IH 6 q j _ _ _ _ (by omega) (by omega) (by omega) (by omega) (by omega) (by omega) (by omega) hC.1).mono ?_
            rintro e w2 ⟨p0, rfl, hA, hC2⟩
            have hC3 := hC.go hC2
            clear hC hC2
            rcases hA with ⟨rfl, hno⟩ | ⟨t, hD, hN⟩
            · have HNX : Hid (∀ t, ¬ Dv ws 6 q j t) := hno
              clear hno
              go_wp2_with fail
              go_roundg (j - (q + 1))
              case measure => rw [HM.out]; omega
              case rel => exact ⟨q + 1, by go_num, by omega, by omega, rfl, hC3, no_ext HNO.out (fun _ b hb => (HNX.out b hb).elim)⟩
            · obtain ⟨b, rfl, hb, hlt⟩ := hN.ptr
              have HD : Hid (Dv ws 6 q j t) := hD
              clear hD
              go_wp2_with fail
              refine (IH 6 (i + 1) q _ _ _ _ (by omega) (by omega) (by omega) (by omega) (by omega) (by omega) (by omega) hC3.1).mono ?_
              rintro e w3 ⟨p1, rfl, hA, hC4⟩
              have hN3 := hN.cs hC4.2
              have hC5 := hC3.go hC4
              clear hN hC3 hC4
              rcases hA with ⟨rfl, hno⟩ | ⟨ta, hDa, hNa⟩
              · have HNX : Hid (∀ t, ¬ Dv ws 6 (i + 1) q t) := hno
                clear hno
                go_wp2_with fail
                go_roundg (j - (q + 1))
                case measure => rw [HM.out]; omega
                case rel => exact ⟨q + 1, by go_num, by omega, by omega, rfl, hC5, no_ext HNO.out (fun _ b hb => ⟨fun _ => HNX.out, fun h => by rw [HTH.out] at h; cases h⟩)⟩
              · obtain ⟨ba, rfl, hba, hlta⟩ := hNa.ptr
                have HDa : Hid (Dv ws 6 (i + 1) q ta) := hDa
                clear hDa
                go_wp2_with fail
                refine (of_cut _ _ _ _ _).mono ?_
                rintro e w6 ⟨rfl, rfl⟩
                go_wp2_with fail
                go_ret
                refine ⟨_, rfl, .inr ⟨nd [116, 104, 114, 111, 119] 0 [] [] [ta, t] [], ?_, ?_⟩, hC5.fr (by repeat (first | exact Fr.refl _ _ | (refine Fr.setCell ?_ (by first | exact .inl rfl | exact .inr (Nat.le_refl _) | (right; simp; omega)) _) | refine Fr.drewN ?_ _ | refine Fr.drew ?_ | refine Fr.alloc ?_ _))⟩
                · unfold bCall
                  rw [if_pos HTH.out]
                  exact .inl ⟨q, ta, t, by omega, hqj, HD.out, HDa.out, rfl⟩
                · exact hC5.1.node2 (vs := [.pointer (some ⟨ba, 0, none⟩), .pointer (some ⟨b, 0, none⟩)]) (.cons hNa (.cons hN3 .nil)) (by simp) (by simp) rfl
          · go_wp2_with fail
            refine (IH 6 i j _ _ _ _ (by omega) (by omega) (by omega) (by omega) (by omega) (by omega) (by omega) hC.1).mono ?_
            rintro e w2 ⟨p0, rfl, hA, hC2⟩
            have hC3 := hC.go hC2
            clear hC hC2
            have HA : Hid (AnsP (bCall ws (Dv ws) i j) w2 (cX mb nb Z) p0) := by
              rcases hA with ⟨rfl, hno⟩ | ⟨t, hD, hN⟩
              · refine .inl ⟨rfl, fun t ht => ?_⟩
                unfold bCall at ht
                split at ht
                · rename_i hth
                  rcases ht with ⟨p, a, b, h1, h2, h3, h4, _⟩ | ht
                  · exact (HNO.out p (by omega) h1 b h3).1 hth a h4
                  · exact hno t ht
                · rename_i hth
                  rcases ht with ⟨p, a, b, h1, h2, h3, h4, _⟩ | ht
                  · exact (HNO.out p (by omega) h1 b h3).2 (by simpa using hth) a h4
                  · exact hno t ht
              · refine .inr ⟨t, ?_, hN⟩
                unfold bCall
                split
                · exact .inr hD
                · exact .inr hD
            clear hA
            go_wp2_with fail
            go_ret
            exact ⟨_, rfl, HA.out, hC3⟩
      | false =>
        have HTH : Hid (wd ws i [116, 104, 114, 111, 119] = false) := hth
        clear hth
        go_wp2_with fail
        go_loopg [10] (j - (i + 1)) (fun m pv wr => ∃ q : Nat, pv = .int .i64 q ∧ i + 1 ≤ q ∧ q ≤ j ∧ m = j - q ∧ Cs c ws W mb cap nb Z w1 wr ∧ ∀ p, p < q → NoCall ws i j p)
        case atStart => exact ⟨i + 1, by go_num, Nat.le_refl _, by omega, by omega, hC0, fun p h1 h2 => by omega⟩
        case round =>
          clear hC0
          obtain ⟨q, rfl, hq1, hq2, hgk, hC, hst⟩ := hrel
          have HM : Hid (gk = j - q) := hgk
          have HNO : Hid (∀ p, p < q → NoCall ws i j p) := hst
          clear hgk hst
          by_cases hqj : q < j
          · go_wp2_with fail
            refine (IH 6 q j _ _ _ _ (by omega) (by omega) (by omega) (by omega) (by omega) (by omega) (by omega) hC.1).mono ?_
            rintro e w2 ⟨p0, rfl, hA, hC2⟩
            have hC3 := hC.go hC2
            clear hC hC2
            rcases hA with ⟨rfl, hno⟩ | ⟨t, hD, hN⟩
            · have HNX : Hid (∀ t, ¬ Dv ws 6 q j t) := hno
              clear hno
              go_wp2_with fail
              go_roundg (j - (q + 1))
              case measure => rw [HM.out]; omega
              case rel => exact ⟨q + 1, by go_num, by omega, by omega, rfl, hC3, no_ext HNO.out (fun _ b hb => (HNX.out b hb).elim)⟩
            · obtain ⟨b, rfl, hb, hlt⟩ := hN.ptr
              have HD : Hid (Dv ws 6 q j t) := hD
              clear hD
              go_wp2_with fail
              refine (IH 5 i q _ _ _ _ (by omega) (by omega) (by omega) (by omega) (by omega) (by omega) (by omega) hC3.1).mono ?_
              rintro e w3 ⟨p1, rfl, hA, hC4⟩
              have hN3 := hN.cs hC4.2
              have hC5 := hC3.go hC4
              clear hN hC3 hC4
              rcases hA with ⟨rfl, hno⟩ | ⟨ta, hDa, hNa⟩
              · have HNX : Hid (∀ t, ¬ Dv ws 5 i q t) := hno
                clear hno
                go_wp2_with fail
                go_roundg (j - (q + 1))
                case measure => rw [HM.out]; omega
                case rel => exact ⟨q + 1, by go_num, by omega, by omega, rfl, hC5, no_ext HNO.out (fun _ b hb => ⟨fun h => (by rw [HTH.out] at h; cases h), fun _ => HNX.out⟩)⟩
              · obtain ⟨ba, rfl, hba, hlta⟩ := hNa.ptr
                have HDa : Hid (Dv ws 5 i q ta) := hDa
                clear hDa
                go_wp2_with fail
                refine (of_cut _ _ _ _ _).mono ?_
                rintro e w6 ⟨rfl, rfl⟩
                go_wp2_with fail
                go_ret
                refine ⟨_, rfl, .inr ⟨nd [99, 97, 108, 108] 0 [] [] [ta, t] [], ?_, ?_⟩, hC5.fr (by repeat (first | exact Fr.refl _ _ | (refine Fr.setCell ?_ (by first | exact .inl rfl | exact .inr (Nat.le_refl _) | (right; simp; omega)) _) | refine Fr.drewN ?_ _ | refine Fr.drew ?_ | refine Fr.alloc ?_ _))⟩
                · unfold bCall
                  rw [if_neg (by rw [HTH.out]; simp)]
                  exact .inl ⟨q, ta, t, by omega, hqj, HD.out, HDa.out, rfl⟩
                · exact hC5.1.node2 (vs := [.pointer (some ⟨ba, 0, none⟩), .pointer (some ⟨b, 0, none⟩)]) (.cons hNa (.cons hN3 .nil)) (by simp) (by simp) rfl
          · go_wp2_with fail
            refine (IH 6 i j _ _ _ _ (by omega) (by omega) (by omega) (by omega) (by omega) (by omega) (by omega) hC.1).mono ?_
            rintro e w2 ⟨p0, rfl, hA, hC2⟩
            have hC3 := hC.go hC2
            clear hC hC2
            have HA : Hid (AnsP (bCall ws (Dv ws) i j) w2 (cX mb nb Z) p0) := by
              rcases hA with ⟨rfl, hno⟩ | ⟨t, hD, hN⟩
              · refine .inl ⟨rfl, fun t ht => ?_⟩
                unfold bCall at ht
                split at ht
                · rename_i hth
                  rcases ht with ⟨p, a, b, h1, h2, h3, h4, _⟩ | ht
                  · exact (HNO.out p (by omega) h1 b h3).1 hth a h4
                  · exact hno t ht
                · rename_i hth
                  rcases ht with ⟨p, a, b, h1, h2, h3, h4, _⟩ | ht
                  · exact (HNO.out p (by omega) h1 b h3).2 (by simpa using hth) a h4
                  · exact hno t ht
              · refine .inr ⟨t, ?_, hN⟩
                unfold bCall
                split
                · exact .inr hD
                · exact .inr hD
            clear hA
            go_wp2_with fail
            go_ret
            exact ⟨_, rfl, HA.out, hC3⟩
end Go.Proofs.YtnbhnjokpcdnnaaGreatDoor

namespace Go.Proofs.YtnbhnjokpcdnnaaGreatDoor
open Go.RowKit

def NoElse (ws : List RW) (p j q : Nat) : Prop := p + 2 ≤ q → wd ws q [101, 108, 115, 101] = true → ∀ b d, Dv ws 0 (p + 1) q b → ¬ Dv ws 0 (q + 1) j d
def NoIf (ws : List RW) (i j p : Nat) : Prop := i + 2 ≤ p → wd ws p [116, 104, 101, 110] = true → ∀ a, Dv ws 0 (i + 1) p a → ∀ q, q < j → NoElse ws p j q

set_option maxHeartbeats 6400000 in
set_option maxRecDepth 100000 in
theorem branch_cut {c : Nat} {ws : List RW} {W : Value} {mb cap nb m : Nat} {Z : Nat → Prop} {w : World} (IH : IsOk c ws W mb cap nb m) {i j : Nat} (hij : i < j) (hj : j ≤ ws.length) (hm : (j - i) * 11 ≤ m) (h : Cut c ws W mb cap nb Z w) :
    Calls Tryz.prog 84 #[.pointer (some ⟨c, 0, none⟩), .int .i64 i, .int .i64 j] w (Res c ws W mb cap nb Z w (bIf ws (Dv ws) i j)) := by
  have hlen := h.len
  have hC0 := Cs.start h
  clear h
  go_enter Tryz.func84, Tryz.ntmps84
  go_wp2_with fail
  go_loopg [7] (j - (i + 2)) (fun m pv wr => ∃ p : Nat, pv = .int .i64 p ∧ i + 2 ≤ p ∧ p ≤ j + 1 ∧ m = j - p ∧ Cs c ws W mb cap nb Z w wr ∧ ∀ q, q < p → NoIf ws i j q)
  case atStart => exact ⟨i + 2, by go_num, Nat.le_refl _, by omega, by omega, hC0, fun p h1 h2 => by omega⟩
  case round =>
    clear hC0
    obtain ⟨p, rfl, hp1, hp2, hgk, hC, hst⟩ := hrel
    have HM : Hid (gk = j - p) := hgk
    have HNO : Hid (∀ q, q < p → NoIf ws i j q) := hst
    clear hgk hst
    by_cases hpj : p < j
    · go_wp2_with fail
      refine (hC.word p (by omega) (by omega) [116, 104, 101, 110]).mono ?_
      rintro e w1 ⟨rfl, rfl⟩
      cases hx : wd ws p [116, 104, 101, 110]
      · go_wp2_with fail
        go_roundg (j - (p + 1))
        case measure => rw [HM.out]; omega
        case rel => exact ⟨p + 1, by go_num, by omega, by omega, rfl, hC, no_ext HNO.out (fun _ h => by rw [hx] at h; cases h)⟩
      · have HS : Hid (wd ws p [116, 104, 101, 110] = true) := hx
        clear hx
        go_wp2_with fail
        refine (IH 0 (i + 1) p _ _ _ _ (by omega) (by omega) (by omega) (by omega) (by omega) (by omega) (by omega) hC.1).mono ?_
        rintro e w2 ⟨pa, rfl, hA, hC2⟩
        have hC3 := hC.go hC2
        clear hC hC2
        go_wp2_with fail
        go_loopg [10] (j - (p + 2)) (fun m pv wr => ∃ r : Nat, pv = .int .i64 r ∧ p + 2 ≤ r ∧ r ≤ j + 1 ∧ m = j - r ∧ Cs c ws W mb cap nb Z w wr ∧ AnsP (Dv ws 0 (i + 1) p) wr (cX mb nb Z) pa ∧ ∀ q, q < r → NoElse ws p j q)
        case atStart => exact ⟨p + 2, by go_num, Nat.le_refl _, by omega, by omega, hC3, hA, fun q h1 h2 => by omega⟩
        case round =>
          clear hC3 hA
          obtain ⟨r, rfl, hr1, hr2, hgk, hC, hA, hst⟩ := hrel
          have HM2 : Hid (gk = j - r) := hgk
          have HNE : Hid (∀ q, q < r → NoElse ws p j q) := hst
          clear hgk hst
          rcases hA with ⟨rfl, hno⟩ | ⟨ta, hDa, hNa⟩
          · have HNX : Hid (∀ t, ¬ Dv ws 0 (i + 1) p t) := hno
            clear hno
            by_cases hrj : r < j
            all_goals
              go_wp2_with fail
              go_roundg (j - (p + 1))
              case measure => rw [HM.out]; omega
              case rel => exact ⟨p + 1, by go_num, by omega, by omega, rfl, hC, no_ext HNO.out (fun _ _ a h => (HNX.out a h).elim)⟩
          · obtain ⟨ba, rfl, hba, hlta⟩ := hNa.ptr
            have HDa : Hid (Dv ws 0 (i + 1) p ta) := hDa
            clear hDa
            by_cases hrj : r < j
            · go_wp2_with fail
              refine (hC.word r (by omega) (by omega) [101, 108, 115, 101]).mono ?_
              rintro e w1 ⟨rfl, rfl⟩
              cases hx : wd ws r [101, 108, 115, 101]
              · go_wp2_with fail
                go_roundg (j - (r + 1))
                case measure => rw [HM2.out]; omega
                case rel => exact ⟨r + 1, by go_num, by omega, by omega, rfl, hC, .inr ⟨ta, HDa.out, hNa⟩, no_ext HNE.out (fun _ h => by rw [hx] at h; cases h)⟩
              · have HS2 : Hid (wd ws r [101, 108, 115, 101] = true) := hx
                clear hx
                go_wp2_with fail
                refine (IH 0 (p + 1) r _ _ _ _ (by omega) (by omega) (by omega) (by omega) (by omega) (by omega) (by omega) hC.1).mono ?_
                rintro e w2 ⟨pb, rfl, hB, hC2⟩
                have hC3 := hC.go hC2
                have hNa2 := hNa.cs hC2.2
                clear hC hC2 hNa
                go_wp2_with fail
                refine (IH 0 (r + 1) j _ _ _ _ (by omega) (by omega) (by omega) (by omega) (by omega) (by omega) (by omega) hC3.1).mono ?_
                rintro e w3 ⟨pd, rfl, hD, hC4⟩
                have hC5 := hC3.go hC4
                have hNa3 := hNa2.cs hC4.2
                have hB3 := hB.fr hC4.2
                clear hC3 hC4 hNa2 hB
                rcases hB3 with ⟨rfl, hno⟩ | ⟨tb, hDb, hNb⟩
                · have HNX : Hid (∀ t, ¬ Dv ws 0 (p + 1) r t) := hno
                  clear hno
                  go_wp2_with fail
                  go_roundg (j - (r + 1))
                  case measure => rw [HM2.out]; omega
                  case rel => exact ⟨r + 1, by go_num, by omega, by omega, rfl, hC5, .inr ⟨ta, HDa.out, hNa3⟩, no_ext HNE.out (fun _ _ b d h => (HNX.out b h).elim)⟩
                · obtain ⟨bb, rfl, hbb, hltb⟩ := hNb.ptr
                  have HDb : Hid (Dv ws 0 (p + 1) r tb) := hDb
                  clear hDb
                  rcases hD with ⟨rfl, hno⟩ | ⟨td, hDd, hNd⟩
                  · have HNX : Hid (∀ t, ¬ Dv ws 0 (r + 1) j t) := hno
                    clear hno
                    go_wp2_with fail
                    go_roundg (j - (r + 1))
                    case measure => rw [HM2.out]; omega
                    case rel => exact ⟨r + 1, by go_num, by omega, by omega, rfl, hC5, .inr ⟨ta, HDa.out, hNa3⟩, no_ext HNE.out (fun _ _ b d _ h => HNX.out d h)⟩
                  · obtain ⟨bd, rfl, hbd, hltd⟩ := hNd.ptr
                    have HDd : Hid (Dv ws 0 (r + 1) j td) := hDd
                    clear hDd
                    go_wp2_with fail
                    refine (of_cut _ _ _ _ _).mono ?_
                    rintro e w6 ⟨rfl, rfl⟩
                    go_wp2_with fail
                    go_ret
                    refine ⟨_, rfl, .inr ⟨nd [105, 102] 0 [] [] [ta, tb, td] [], ⟨p, r, ta, tb, td, hp1, hpj, HS.out, HDa.out, hr1, hrj, HS2.out, HDb.out, HDd.out, rfl⟩, ?_⟩, hC5.fr (by repeat (first | exact Fr.refl _ _ | (refine Fr.setCell ?_ (by first | exact .inl rfl | exact .inr (Nat.le_refl _) | (right; simp; omega)) _) | refine Fr.drewN ?_ _ | refine Fr.drew ?_ | refine Fr.alloc ?_ _))⟩
                    exact hC5.1.node2 (vs := [.pointer (some ⟨ba, 0, none⟩), .pointer (some ⟨bb, 0, none⟩), .pointer (some ⟨bd, 0, none⟩)]) (.cons hNa3 (.cons hNb (.cons hNd .nil))) (by simp) (by simp) rfl
            · go_wp2_with fail
              go_roundg (j - (p + 1))
              case measure => rw [HM.out]; omega
              case rel => exact ⟨p + 1, by go_num, by omega, by omega, rfl, hC, no_ext HNO.out (fun _ _ _ _ q hq => HNE.out q (by omega))⟩
    · go_wp2_with fail
      go_ret
      refine ⟨_, rfl, .inl ⟨rfl, ?_⟩, hC⟩
      rintro t ⟨p', q, a, b, d, g1, g2, g3, g4, g5, g6, g7, g8, g9, g10⟩
      exact HNO.out p' (by omega) g1 g3 a g4 q g6 g5 g7 b d g8 g9
end Go.Proofs.YtnbhnjokpcdnnaaGreatDoor

namespace Go.Proofs.YtnbhnjokpcdnnaaGreatDoor
open Go.RowKit

theorem Tryz.infoPE : (Tryz.prog.info? 26).map (fun i => (i.zero, i.size, i.bytes)) = some (some (.pointer none), 1, 8) := by kernel_rfl
theorem slPE : SlT Tryz.prog 68 26 (.pointer none) 1 8 := ⟨Tryz.underlying68, info_parts Tryz.infoPE, rfl, by decide⟩

/-- What definitions are. -/
theorem Dv_defs {ws : List RW} : ∀ (n i j : Nat) (t : Code), j - i ≤ n → Dv ws 10 i j t → ∃ ds, t = nd [100, 101, 102, 115] 0 [] [] ds [] ∧ 0 < ds.length ∧ ds.length ≤ j - i := by
  intro n
  induction n with
  | zero =>
    intro i j t hn h
    have := Dv_lt h
    omega
  | succ n ih =>
    intro i j t hn h
    obtain ⟨h0, g1, g2, g3, p, b, g4, g5, g6, ⟨g7, g8⟩ | ⟨g7, g8, ds, g9, g10⟩⟩ := Dv_in h
    · exact ⟨_, g8, by simp, by simp; omega⟩
    · obtain ⟨ds', h1, h2, h3⟩ := ih (p + 1) j _ (by omega) g9
      have h4 : toC ds = toC ds' := by injection h1
      have h5 : ds.length = ds'.length := by
        clear g9 g10 h1 h2 h3
        induction ds generalizing ds' with
        | nil => cases ds' with
          | nil => rfl
          | cons _ _ => cases h4
        | cons a l ih => cases ds' with
          | nil => cases h4
          | cons b l' =>
            simp only [toC, Code.seq.injEq] at h4
            simp [ih l' h4.2]
      exact ⟨_, g10, by simp, by simp; omega⟩

section
variable {w w' : World} {X : Nat → Prop}

theorem Nds.one : ∀ {l : List Code} {vs : List Value}, Nds w X l vs → ∀ u ∈ vs, u.oneCell' = true
  | [], vs, h, u, hu => by
    have h' : vs = [] := h
    subst h'
    cases hu
  | a :: l, _, ⟨v, vs', h1, h2, h3⟩, u, hu => by
    subst h1
    rcases List.mem_cons.1 hu with rfl | h
    · obtain ⟨b, hb, _⟩ := Nd.ptr (show Nd w X a u from h2)
      rw [hb]
      rfl
    · exact Nds.one (l := l) h3 u h

/-- A node's rows. -/
theorem Nd.rows {k : List UInt8} {n : Int} {nm ow : List UInt8} {subs pats : List Code} {b : Nat} (h : Nd w X (nd k n nm ow subs pats) (.pointer (some ⟨b, 0, none⟩))) :
    ∃ vs vp cs cp, b < w.heap.size ∧ w.cell? ⟨b, 4, none⟩ = some vs ∧ w.cell? ⟨b, 5, none⟩ = some vp ∧ w.ownsRow 0 26 1 vs subs.length cs ∧ (∀ b, vs.ownBlock = some b → ¬ X b) ∧ Nds w X subs cs ∧ cs.length = subs.length ∧ w.ownsRow 0 26 1 vp pats.length cp ∧ (∀ b, vp.ownBlock = some b → ¬ X b) ∧ Nds w X pats cp ∧ cp.length = pats.length := by
  obtain ⟨b', vs, vp, cs, cp, h1, h2, h3, h4, h5, h6, h7, h8, h9⟩ := h.open
  cases h1
  exact ⟨vs, vp, cs, cp, (Array.getElem?_eq_some_iff.1 h3).1, by simp [World.cell?, h3], by simp [World.cell?, h3], h6.len ▸ h4, h5, h6, h6.len, h9.len ▸ h7, h8, h9, h9.len⟩

theorem row_form {v : Value} {n : Nat} {cs : List Value} (h : w.ownsRow 0 26 1 v n cs) (hn : 0 < n) : ∃ g cp, v = .slice (some ⟨g, 0, none⟩) n cp ∧ g < w.heap.size ∧ ∀ j u, cs[j]? = some u → w.cell? ((⟨g, 0, none⟩ : Addr).add j) = some u := by
  have h' := h
  rcases h.2 with ⟨_, h0⟩ | ⟨g, cp, cur, rfl, _⟩
  · omega
  · exact ⟨g, cp, rfl, (h'.lt g rfl).2, h'.cells rfl⟩
end

section
variable {c : Nat} {ws : List RW} {W : Value} {mb cap nb : Nat} {Z : Nat → Prop} {w w' w'' : World}

theorem Cut.nodeR (h : Cut c ws W mb cap nb Z w) (hF : Fr (fun _ => False) w w') {k : List UInt8} {n : Int} {nm ow : List UInt8} {vs vp : Value} {cs cp : List Value} {subs pats : List Code} {m : Nat} (hs : w'.ownsRow w.heap.size 26 1 vs m cs) (hm : m = cs.length) (h1 : Nds w (cX mb nb Z) subs cs)
    {l : Nat} (hp : w'.ownsRow 0 26 1 vp l cp) (hl : l = cp.length) (hpX : ∀ b, vp.ownBlock = some b → ¬ cX mb nb Z b) (h2 : Nds w (cX mb nb Z) pats cp) {q : Nat} (hq : w.heap.size ≤ q)
    (hb : w'.heap[q]? = some (.cells #[.string (bs k), .int .i64 n, .string (bs nm), .string (bs ow), vs, vp] 70 (0, 0))) : Nd w' (cX mb nb Z) (nd k n nm ow subs pats) (.pointer (some ⟨q, 0, none⟩)) := by
  subst hm hl
  exact Nd.mk (h.new hq) hb (ownsRow_base hs (fun _ _ => Nat.zero_le _)) (fun b hb => h.new (hs.lt b hb).1) (h1.fr (hF.mono (fun _ h => h.elim))) hp hpX (h2.fr (hF.mono (fun _ h => h.elim)))
end

/-- No 'in' at p. -/
def NoLet (ws : List RW) (i j p : Nat) : Prop := i + 2 ≤ p → wd ws p [105, 110] = true →
  (wd ws (i + 1) [114, 101, 99] = true → ∀ ds b, Dv ws 10 (i + 2) p (nd [100, 101, 102, 115] 0 [] [] ds []) → ¬ Dv ws 0 (p + 1) j b) ∧ (isNm ws (i + 1) = true → wd ws (i + 2) [61] = true → ∀ a b, Dv ws 0 (i + 3) p a → ¬ Dv ws 0 (p + 1) j b)

theorem NoLet.all {ws : List RW} {i j : Nat} (h : ∀ p, p < j → NoLet ws i j p) (t : Code) : ¬ bLet ws (Dv ws) i j t := by
  rintro (⟨h1, p, ds, b, h2, h3, h4, h5, h6, h7⟩ | ⟨h1, h2, p, a, b, h3, h4, h5, h6, h7, h8⟩)
  · exact (h p h3 h2 h4).1 h1 ds b h5 h6
  · exact (h p h4 h3 h5).2 h1 h2 a b h6 h7

theorem wd_not {ws : List RW} {i : Nat} {s : List UInt8} (h : wd ws i s = true) : isNm ws i = false := by
  simp only [wd, Bool.and_eq_true, Bool.not_eq_true'] at h
  simp [isNm, h.2]

set_option maxHeartbeats 6400000 in
set_option maxRecDepth 100000 in
theorem letrec_cut {c : Nat} {ws : List RW} {W : Value} {mb cap nb m : Nat} {Z : Nat → Prop} {w : World} (IH : IsOk c ws W mb cap nb m) {i j : Nat} (hij : i < j) (hj : j ≤ ws.length) (hm : (j - i) * 11 ≤ m) (h : Cut c ws W mb cap nb Z w) (hrec : wd ws (i + 1) [114, 101, 99] = true) :
    Calls Tryz.prog 82 #[.pointer (some ⟨c, 0, none⟩), .int .i64 i, .int .i64 j] w (Res c ws W mb cap nb Z w (bLet ws (Dv ws) i j)) := by
  have hlen := h.len
  have hC0 := Cs.start h
  have HX : Hid (isNm ws (i + 1) = false) := wd_not hrec
  have HR : Hid (wd ws (i + 1) [114, 101, 99] = true) := hrec
  clear h hrec
  go_enter Tryz.func82, Tryz.ntmps82
  go_wp2_with fail
  refine (hC0.word (i + 1) (by omega) (by omega) [114, 101, 99]).mono ?_
  rintro e w1 ⟨rfl, rfl⟩
  rw [HR.out]
  go_wp2_with fail
  refine (hC0.name (i + 1) (by omega) (by omega)).mono ?_
  rintro e w1 ⟨rfl, rfl⟩
  rw [HX.out]
  go_wp2_with fail
  refine (hC0.word (i + 2) (by omega) (by omega) [61]).mono ?_
  rintro e w1 ⟨rfl, rfl⟩
  go_wp2_with fail
  go_loopg [10] (j - (i + 2)) (fun m pv wr => ∃ p : Nat, pv = .int .i64 p ∧ i + 2 ≤ p ∧ p ≤ j + 1 ∧ m = j - p ∧ Cs c ws W mb cap nb Z w1 wr ∧ ∀ q, q < p → NoLet ws i j q)
  case atStart => exact ⟨i + 2, by go_num, Nat.le_refl _, by omega, by omega, hC0, fun p h1 h2 => by omega⟩
  case round =>
    clear hC0
    obtain ⟨p, rfl, hp1, hp2, hgk, hC, hst⟩ := hrel
    have HM : Hid (gk = j - p) := hgk
    have HNO : Hid (∀ q, q < p → NoLet ws i j q) := hst
    clear hgk hst
    by_cases hpj : p < j
    · go_wp2_with fail
      refine (hC.word p (by omega) (by omega) [105, 110]).mono ?_
      rintro e w2 ⟨rfl, rfl⟩
      cases hx : wd ws p [105, 110]
      · go_wp2_with fail
        go_roundg (j - (p + 1))
        case measure => rw [HM.out]; omega
        case rel => exact ⟨p + 1, by go_num, by omega, by omega, rfl, hC, no_ext HNO.out (fun _ h => by rw [hx] at h; cases h)⟩
      · have HS : Hid (wd ws p [105, 110] = true) := hx
        clear hx
        go_wp2_with fail
        refine (IH 0 (p + 1) j _ _ _ _ (by omega) (by omega) (by omega) (by omega) (by omega) (by omega) (by omega) hC.1).mono ?_
        rintro e w3 ⟨pb, rfl, hB, hC2⟩
        have hC3 := hC.go hC2
        clear hC hC2
        rcases hB with ⟨rfl, hno⟩ | ⟨tb, hDb, hNb⟩
        · have HNX : Hid (∀ t, ¬ Dv ws 0 (p + 1) j t) := hno
          clear hno
          go_wp2_with fail
          go_roundg (j - (p + 1))
          case measure => rw [HM.out]; omega
          case rel => exact ⟨p + 1, by go_num, by omega, by omega, rfl, hC3, no_ext HNO.out (fun _ _ => ⟨fun _ _ b _ h => HNX.out b h, fun _ _ _ b _ h => HNX.out b h⟩)⟩
        · obtain ⟨bb, rfl, hbb, hltb⟩ := hNb.ptr
          have HDb : Hid (Dv ws 0 (p + 1) j tb) := hDb
          clear hDb
          go_wp2_with fail
          refine (IH 10 (i + 2) p _ _ _ _ (by omega) (by omega) (by omega) (by omega) (by omega) (by omega) (by omega) hC3.1).mono ?_
          rintro e w4 ⟨pd, rfl, hD, hC4⟩
          have hC5 := hC3.go hC4
          have hNb4 := hNb.cs hC4.2
          clear hC3 hC4 hNb
          rcases hD with ⟨rfl, hno⟩ | ⟨td, hDd, hNd⟩
          · have HNX : Hid (∀ t, ¬ Dv ws 10 (i + 2) p t) := hno
            clear hno
            go_wp2_with fail
            go_roundg (j - (p + 1))
            case measure => rw [HM.out]; omega
            case rel => exact ⟨p + 1, by go_num, by omega, by omega, rfl, hC5, no_ext HNO.out (fun _ _ => ⟨fun _ _ _ h _ => HNX.out _ h, fun h => (by rw [HX.out] at h; cases h)⟩)⟩
          · obtain ⟨bd, rfl, hbd, hltd⟩ := hNd.ptr
            obtain ⟨ds, rfl, hd1, hd2⟩ := Dv_defs _ _ _ _ (Nat.le_refl _) hDd
            have HDd : Hid (Dv ws 10 (i + 2) p (nd [100, 101, 102, 115] 0 [] [] ds [])) := hDd
            obtain ⟨vs, vp, cs, cp, -, k4, -, hrow, hrX, hds, hcl, -⟩ := hNd.rows
            obtain ⟨g, gc, rfl, hgl, hgc⟩ := row_form hrow hd1
            have HT : Hid (Nds w4 (cX mb nb Z) (ds ++ [tb]) (cs ++ [.pointer (some ⟨bb, 0, none⟩)])) := hds.append (.cons hNb4 .nil)
            have HO : Hid (∀ u ∈ cs, u.oneCell' = true) := hds.one
            have HG : Hid (∀ j u, cs[j]? = some u → w4.cell? ((⟨g, 0, none⟩ : Addr).add j) = some u) := hgc
            clear hDd hNd hrow hrX hgc hds hNb4
            have hpl : p ≤ 240 := by omega
            go_wp2_with (at_builtin; refine wpList_app slPE rfl (.const (.slice none 0 0)) (.tmp 60) rfl w4.heap.size 0 [] _ rfl (World.ownsRow_nil _ _ _ _) ⟨g, 0, none⟩ ds.length gc cs rfl ?l1 ?c1 ?c2 ?m0 ?b1 ?b2 ?b3 ?grow)
            case l1 => omega
            case c1 => exact HG.out
            case c2 => exact HO.out
            case m0 => omega
            case b1 => unfold maxLen; omega
            case b2 => omega
            case b3 => exact Nat.le_refl _
            case grow =>
              intro v' w5 hown hgrow hv g' cap' hfm
              subst hfm
              have hF5 : Fr (fun _ => False) w4 w5 := (Fr.refl _ _).grown hgrow (fun k hk => by cases hk)
              have HF5 : Hid (Fr (fun _ => False) w4 w5) := hF5
              have hsz : w4.heap.size ≤ w5.heap.size := hF5.size
              have hg' := (hown.lt g' rfl).1
              clear hgrow hv hF5
              go_wp2_with (at_builtin; refine wpList_app slPE rfl (.tmp 62) (.tmp 64) rfl w4.heap.size ds.length cs _ rfl (hown.alloc _) ⟨w5.heap.size, 0, none⟩ 1 1 [.pointer (some ⟨bb, 0, none⟩)] rfl rfl ?c1 ?c2 (by decide) ?b1 ?b2 ?b3 ?grow2)
              case c1 => intro j u hj; match j, hj with | 0, hj => simp at hj; subst hj; simp [Addr.add]
              case c2 => intro u hu; simp at hu; subst hu; rfl
              case b1 => unfold maxLen; omega
              case b2 => omega
              case b3 => simp; omega
              case grow2 =>
                intro v'' w6 hown2 hgrow2 hv2 g2 cap2 hfm2
                subst hfm2
                have HF6 : Hid (Fr (fun _ => False) w4 w6) := (HF5.out.alloc _).grown hgrow2 (fun k hk => by cases hk; exact .inr hg')
                have HO2 : Hid (w6.ownsRow w4.heap.size 26 1 (.slice (some ⟨g2, 0, none⟩) (ds.length + 1) cap2) (ds.length + 1) (cs ++ [.pointer (some ⟨bb, 0, none⟩)])) := hown2
                clear hown2 hgrow2 hv2 hown
                go_wp2_with fail
                refine (of_cut _ _ _ _ _).mono ?_
                rintro e w7 ⟨rfl, rfl⟩
                go_wp2_with fail
                go_ret
                refine ⟨_, rfl, .inr ⟨nd [114, 101, 99] 0 [] [] (ds ++ [tb]) [], .inl ⟨HR.out, p, ds, tb, hp1, hpj, HS.out, HDd.out, HDb.out, rfl⟩, ?_⟩, hC5.fr (HF6.out.alloc _)⟩
                exact hC5.1.nodeR (HF6.out.alloc _) (HO2.out.alloc _) (by simp; omega) HT.out (World.ownsRow_nil _ _ _ _) rfl (fun b hb => by cases hb) Nds.nil HF6.out.size (blk_at _ rfl)
    · go_wp2_with fail
      go_ret
      exact ⟨_, rfl, .inl ⟨rfl, NoLet.all (fun q hq => HNO.out q (by omega))⟩, hC⟩
end Go.Proofs.YtnbhnjokpcdnnaaGreatDoor

namespace Go.Proofs.YtnbhnjokpcdnnaaGreatDoor
open Go.RowKit

set_option maxHeartbeats 6400000 in
set_option maxRecDepth 100000 in
theorem let_none1 {c : Nat} {ws : List RW} {W : Value} {mb cap nb m : Nat} {Z : Nat → Prop} {w : World} (IH : IsOk c ws W mb cap nb m) {i j : Nat} (hij : i < j) (hj : j ≤ ws.length) (hm : (j - i) * 11 ≤ m) (h : Cut c ws W mb cap nb Z w) (hrec : wd ws (i + 1) [114, 101, 99] = false) (hxx : isNm ws (i + 1) = false) :
    Calls Tryz.prog 82 #[.pointer (some ⟨c, 0, none⟩), .int .i64 i, .int .i64 j] w (Res c ws W mb cap nb Z w (bLet ws (Dv ws) i j)) := by
  have hlen := h.len
  have hC0 := Cs.start h
  have HR : Hid (wd ws (i + 1) [114, 101, 99] = false) := hrec
  have HX : Hid (isNm ws (i + 1) = false) := hxx
  clear hxx
  clear h hrec
  go_enter Tryz.func82, Tryz.ntmps82
  go_wp2_with fail
  refine (hC0.word (i + 1) (by omega) (by omega) [114, 101, 99]).mono ?_
  rintro e w1 ⟨rfl, rfl⟩
  rw [HR.out]
  go_wp2_with fail
  refine (hC0.name (i + 1) (by omega) (by omega)).mono ?_
  rintro e w1 ⟨rfl, rfl⟩
  rw [HX.out]
  go_wp2_with fail
  refine (hC0.word (i + 2) (by omega) (by omega) [61]).mono ?_
  rintro e w1 ⟨rfl, rfl⟩
  go_wp2_with fail
  go_loopg [10] (j - (i + 2)) (fun m pv wr => ∃ p : Nat, pv = .int .i64 p ∧ i + 2 ≤ p ∧ p ≤ j + 1 ∧ m = j - p ∧ Cs c ws W mb cap nb Z w1 wr ∧ ∀ q, q < p → NoLet ws i j q)
  case atStart => exact ⟨i + 2, by go_num, Nat.le_refl _, by omega, by omega, hC0, fun p h1 h2 => by omega⟩
  case round =>
    clear hC0
    obtain ⟨p, rfl, hp1, hp2, hgk, hC, hst⟩ := hrel
    have HM : Hid (gk = j - p) := hgk
    have HNO : Hid (∀ q, q < p → NoLet ws i j q) := hst
    clear hgk hst
    by_cases hpj : p < j
    · go_wp2_with fail
      refine (hC.word p (by omega) (by omega) [105, 110]).mono ?_
      rintro e w2 ⟨rfl, rfl⟩
      cases hx : wd ws p [105, 110]
      · go_wp2_with fail
        go_roundg (j - (p + 1))
        case measure => rw [HM.out]; omega
        case rel => exact ⟨p + 1, by go_num, by omega, by omega, rfl, hC, no_ext HNO.out (fun _ h => by rw [hx] at h; cases h)⟩
      · have HS : Hid (wd ws p [105, 110] = true) := hx
        clear hx
        go_wp2_with fail
        refine (IH 0 (p + 1) j _ _ _ _ (by omega) (by omega) (by omega) (by omega) (by omega) (by omega) (by omega) hC.1).mono ?_
        rintro e w3 ⟨pb, rfl, hB, hC2⟩
        have hC3 := hC.go hC2
        clear hC hC2
        rcases hB with ⟨rfl, hno⟩ | ⟨tb, hDb, hNb⟩
        · have HNX : Hid (∀ t, ¬ Dv ws 0 (p + 1) j t) := hno
          clear hno
          go_wp2_with fail
          go_roundg (j - (p + 1))
          case measure => rw [HM.out]; omega
          case rel => exact ⟨p + 1, by go_num, by omega, by omega, rfl, hC3, no_ext HNO.out (fun _ _ => ⟨fun _ _ b _ h => HNX.out b h, fun _ _ _ b _ h => HNX.out b h⟩)⟩
        · obtain ⟨bb, rfl, hbb, hltb⟩ := hNb.ptr
          have HDb : Hid (Dv ws 0 (p + 1) j tb) := hDb
          clear hDb
          go_wp2_with fail
          go_roundg (j - (p + 1))
          case measure => rw [HM.out]; omega
          case rel => exact ⟨p + 1, by go_num, by omega, by omega, rfl, hC3, no_ext HNO.out (fun _ _ => ⟨fun h => (by rw [HR.out] at h; cases h), fun h => (by rw [HX.out] at h; cases h)⟩)⟩
    · go_wp2_with fail
      go_ret
      exact ⟨_, rfl, .inl ⟨rfl, NoLet.all (fun q hq => HNO.out q (by omega))⟩, hC⟩

set_option maxHeartbeats 6400000 in
set_option maxRecDepth 100000 in
theorem let_none2 {c : Nat} {ws : List RW} {W : Value} {mb cap nb m : Nat} {Z : Nat → Prop} {w : World} (IH : IsOk c ws W mb cap nb m) {i j : Nat} (hij : i < j) (hj : j ≤ ws.length) (hm : (j - i) * 11 ≤ m) (h : Cut c ws W mb cap nb Z w) (hrec : wd ws (i + 1) [114, 101, 99] = false) (hxx : isNm ws (i + 1) = true) (hqq : wd ws (i + 2) [61] = false) :
    Calls Tryz.prog 82 #[.pointer (some ⟨c, 0, none⟩), .int .i64 i, .int .i64 j] w (Res c ws W mb cap nb Z w (bLet ws (Dv ws) i j)) := by
  have hlen := h.len
  have hC0 := Cs.start h
  have HR : Hid (wd ws (i + 1) [114, 101, 99] = false) := hrec
  have HX : Hid (isNm ws (i + 1) = true) := hxx
  have HQ : Hid (wd ws (i + 2) [61] = false) := hqq
  clear hxx hqq
  clear h hrec
  go_enter Tryz.func82, Tryz.ntmps82
  go_wp2_with fail
  refine (hC0.word (i + 1) (by omega) (by omega) [114, 101, 99]).mono ?_
  rintro e w1 ⟨rfl, rfl⟩
  rw [HR.out]
  go_wp2_with fail
  refine (hC0.name (i + 1) (by omega) (by omega)).mono ?_
  rintro e w1 ⟨rfl, rfl⟩
  rw [HX.out]
  go_wp2_with fail
  refine (hC0.word (i + 2) (by omega) (by omega) [61]).mono ?_
  rintro e w1 ⟨rfl, rfl⟩
  rw [HQ.out]
  go_wp2_with fail
  go_loopg [10] (j - (i + 2)) (fun m pv wr => ∃ p : Nat, pv = .int .i64 p ∧ i + 2 ≤ p ∧ p ≤ j + 1 ∧ m = j - p ∧ Cs c ws W mb cap nb Z w1 wr ∧ ∀ q, q < p → NoLet ws i j q)
  case atStart => exact ⟨i + 2, by go_num, Nat.le_refl _, by omega, by omega, hC0, fun p h1 h2 => by omega⟩
  case round =>
    clear hC0
    obtain ⟨p, rfl, hp1, hp2, hgk, hC, hst⟩ := hrel
    have HM : Hid (gk = j - p) := hgk
    have HNO : Hid (∀ q, q < p → NoLet ws i j q) := hst
    clear hgk hst
    by_cases hpj : p < j
    · go_wp2_with fail
      refine (hC.word p (by omega) (by omega) [105, 110]).mono ?_
      rintro e w2 ⟨rfl, rfl⟩
      cases hx : wd ws p [105, 110]
      · go_wp2_with fail
        go_roundg (j - (p + 1))
        case measure => rw [HM.out]; omega
        case rel => exact ⟨p + 1, by go_num, by omega, by omega, rfl, hC, no_ext HNO.out (fun _ h => by rw [hx] at h; cases h)⟩
      · have HS : Hid (wd ws p [105, 110] = true) := hx
        clear hx
        go_wp2_with fail
        refine (IH 0 (p + 1) j _ _ _ _ (by omega) (by omega) (by omega) (by omega) (by omega) (by omega) (by omega) hC.1).mono ?_
        rintro e w3 ⟨pb, rfl, hB, hC2⟩
        have hC3 := hC.go hC2
        clear hC hC2
        rcases hB with ⟨rfl, hno⟩ | ⟨tb, hDb, hNb⟩
        · have HNX : Hid (∀ t, ¬ Dv ws 0 (p + 1) j t) := hno
          clear hno
          go_wp2_with fail
          go_roundg (j - (p + 1))
          case measure => rw [HM.out]; omega
          case rel => exact ⟨p + 1, by go_num, by omega, by omega, rfl, hC3, no_ext HNO.out (fun _ _ => ⟨fun _ _ b _ h => HNX.out b h, fun _ _ _ b _ h => HNX.out b h⟩)⟩
        · obtain ⟨bb, rfl, hbb, hltb⟩ := hNb.ptr
          have HDb : Hid (Dv ws 0 (p + 1) j tb) := hDb
          clear hDb
          go_wp2_with fail
          go_roundg (j - (p + 1))
          case measure => rw [HM.out]; omega
          case rel => exact ⟨p + 1, by go_num, by omega, by omega, rfl, hC3, no_ext HNO.out (fun _ _ => ⟨fun h => (by rw [HR.out] at h; cases h), fun _ h => (by rw [HQ.out] at h; cases h)⟩)⟩
    · go_wp2_with fail
      go_ret
      exact ⟨_, rfl, .inl ⟨rfl, NoLet.all (fun q hq => HNO.out q (by omega))⟩, hC⟩

set_option maxHeartbeats 6400000 in
set_option maxRecDepth 100000 in
theorem let_some {c : Nat} {ws : List RW} {W : Value} {mb cap nb m : Nat} {Z : Nat → Prop} {w : World} (IH : IsOk c ws W mb cap nb m) {i j : Nat} (hij : i < j) (hj : j ≤ ws.length) (hm : (j - i) * 11 ≤ m) (h : Cut c ws W mb cap nb Z w) (hrec : wd ws (i + 1) [114, 101, 99] = false) (hxx : isNm ws (i + 1) = true) (hqq : wd ws (i + 2) [61] = true) :
    Calls Tryz.prog 82 #[.pointer (some ⟨c, 0, none⟩), .int .i64 i, .int .i64 j] w (Res c ws W mb cap nb Z w (bLet ws (Dv ws) i j)) := by
  have hlen := h.len
  have hC0 := Cs.start h
  have HR : Hid (wd ws (i + 1) [114, 101, 99] = false) := hrec
  have HX : Hid (isNm ws (i + 1) = true) := hxx
  have HQ : Hid (wd ws (i + 2) [61] = true) := hqq
  clear hxx hqq
  clear h hrec
  go_enter Tryz.func82, Tryz.ntmps82
  go_wp2_with fail
  refine (hC0.word (i + 1) (by omega) (by omega) [114, 101, 99]).mono ?_
  rintro e w1 ⟨rfl, rfl⟩
  rw [HR.out]
  go_wp2_with fail
  refine (hC0.name (i + 1) (by omega) (by omega)).mono ?_
  rintro e w1 ⟨rfl, rfl⟩
  rw [HX.out]
  go_wp2_with fail
  refine (hC0.word (i + 2) (by omega) (by omega) [61]).mono ?_
  rintro e w1 ⟨rfl, rfl⟩
  rw [HQ.out]
  go_wp2_with fail
  go_loopg [10] (j - (i + 2)) (fun m pv wr => ∃ p : Nat, pv = .int .i64 p ∧ i + 2 ≤ p ∧ p ≤ j + 1 ∧ m = j - p ∧ Cs c ws W mb cap nb Z w1 wr ∧ ∀ q, q < p → NoLet ws i j q)
  case atStart => exact ⟨i + 2, by go_num, Nat.le_refl _, by omega, by omega, hC0, fun p h1 h2 => by omega⟩
  case round =>
    clear hC0
    obtain ⟨p, rfl, hp1, hp2, hgk, hC, hst⟩ := hrel
    have HM : Hid (gk = j - p) := hgk
    have HNO : Hid (∀ q, q < p → NoLet ws i j q) := hst
    clear hgk hst
    by_cases hpj : p < j
    · go_wp2_with fail
      refine (hC.word p (by omega) (by omega) [105, 110]).mono ?_
      rintro e w2 ⟨rfl, rfl⟩
      cases hx : wd ws p [105, 110]
      · go_wp2_with fail
        go_roundg (j - (p + 1))
        case measure => rw [HM.out]; omega
        case rel => exact ⟨p + 1, by go_num, by omega, by omega, rfl, hC, no_ext HNO.out (fun _ h => by rw [hx] at h; cases h)⟩
      · have HS : Hid (wd ws p [105, 110] = true) := hx
        clear hx
        go_wp2_with fail
        refine (IH 0 (p + 1) j _ _ _ _ (by omega) (by omega) (by omega) (by omega) (by omega) (by omega) (by omega) hC.1).mono ?_
        rintro e w3 ⟨pb, rfl, hB, hC2⟩
        have hC3 := hC.go hC2
        clear hC hC2
        rcases hB with ⟨rfl, hno⟩ | ⟨tb, hDb, hNb⟩
        · have HNX : Hid (∀ t, ¬ Dv ws 0 (p + 1) j t) := hno
          clear hno
          go_wp2_with fail
          go_roundg (j - (p + 1))
          case measure => rw [HM.out]; omega
          case rel => exact ⟨p + 1, by go_num, by omega, by omega, rfl, hC3, no_ext HNO.out (fun _ _ => ⟨fun _ _ b _ h => HNX.out b h, fun _ _ _ b _ h => HNX.out b h⟩)⟩
        · obtain ⟨bb, rfl, hbb, hltb⟩ := hNb.ptr
          have HDb : Hid (Dv ws 0 (p + 1) j tb) := hDb
          clear hDb
          go_wp2_with fail
          refine (IH 0 (i + 3) p _ _ _ _ (by omega) (by omega) (by omega) (by omega) (by omega) (by omega) (by omega) hC3.1).mono ?_
          rintro e w4 ⟨pa, rfl, hA, hC4⟩
          have hC5 := hC3.go hC4
          have hNb4 := hNb.cs hC4.2
          clear hC3 hC4 hNb
          rcases hA with ⟨rfl, hno⟩ | ⟨ta, hDa, hNa⟩
          · have HNX : Hid (∀ t, ¬ Dv ws 0 (i + 3) p t) := hno
            clear hno
            go_wp2_with fail
            go_roundg (j - (p + 1))
            case measure => rw [HM.out]; omega
            case rel => exact ⟨p + 1, by go_num, by omega, by omega, rfl, hC5, no_ext HNO.out (fun _ _ => ⟨fun h => (by rw [HR.out] at h; cases h), fun _ _ a _ h _ => HNX.out a h⟩)⟩
          · obtain ⟨ba, rfl, hba, hlta⟩ := hNa.ptr
            have HDa : Hid (Dv ws 0 (i + 3) p ta) := hDa
            clear hDa
            obtain ⟨lb, lc, hW, hlb, d0, -, -⟩ := hC5.1.word (i := i + 1) (by omega)
            obtain ⟨hc, c0, -, -, -⟩ := hC5.1.cells
            rw [hW] at c0
            clear hW
            obtain ⟨i1, hi1⟩ : ∃ i1, i1 = i + 1 := ⟨_, rfl⟩
            have hE : (i : Int) + 1 = (i1 : Int) := by omega
            have HI1 : Hid (i1 = i + 1) := hi1
            rw [← hi1] at d0
            have hi1' : i1 < ws.length := by omega
            clear hi1
            go_wp2_with fail
            go_ret
            refine ⟨_, rfl, .inr ⟨nd [108, 101, 116] 0 (tx ws (i + 1)) [] [ta, tb] [], .inr ⟨HX.out, HQ.out, p, ta, tb, hp1, hpj, HS.out, HDa.out, HDb.out, rfl⟩, ?_⟩, hC5.fr (by repeat (first | exact Fr.refl _ _ | (refine Fr.setCell ?_ (by first | exact .inl rfl | exact .inr (Nat.le_refl _) | (right; simp; omega)) _) | refine Fr.drewN ?_ _ | refine Fr.drew ?_ | refine Fr.alloc ?_ _))⟩
            rw [HI1.out]
            exact hC5.1.node2 (vs := [.pointer (some ⟨ba, 0, none⟩), .pointer (some ⟨bb, 0, none⟩)]) (.cons hNa (.cons hNb4 .nil)) (by simp) (by simp) rfl
    · go_wp2_with fail
      go_ret
      exact ⟨_, rfl, .inl ⟨rfl, NoLet.all (fun q hq => HNO.out q (by omega))⟩, hC⟩

theorem let_cut {c : Nat} {ws : List RW} {W : Value} {mb cap nb m : Nat} {Z : Nat → Prop} {w : World} (IH : IsOk c ws W mb cap nb m) {i j : Nat} (hij : i < j) (hj : j ≤ ws.length) (hm : (j - i) * 11 ≤ m) (h : Cut c ws W mb cap nb Z w) :
    Calls Tryz.prog 82 #[.pointer (some ⟨c, 0, none⟩), .int .i64 i, .int .i64 j] w (Res c ws W mb cap nb Z w (bLet ws (Dv ws) i j)) := by
  cases h1 : wd ws (i + 1) [114, 101, 99] with
  | true => exact letrec_cut IH hij hj hm h h1
  | false =>
    cases h2 : isNm ws (i + 1) with
    | false => exact let_none1 IH hij hj hm h h1 h2
    | true =>
      cases h3 : wd ws (i + 2) [61] with
      | false => exact let_none2 IH hij hj hm h h1 h2 h3
      | true => exact let_some IH hij hj hm h h1 h2 h3

end Go.Proofs.YtnbhnjokpcdnnaaGreatDoor
