import Derived.Test.YtnbhnjokpcdnnaaGreatDoorQB6
import Derived.Test.YtnbhnjokpcdnnaaGreatDoorQB7
import Derived.Test.YtnbhnjokpcdnnaaGreatDoorQB8
import Derived.Deep.RegionLaw
import Derived.Deep.OwnRows
set_option linter.unusedSimpArgs false
set_option linter.unusedVariables false

namespace Go.Proofs.YtnbhnjokpcdnnaaGreatDoor
open Go.RowKit

/-- What is wanted of clauses. -/
def ClOk (c : Nat) (ws : List RW) (W : Value) (mb cap nb : Nat) : Prop :=
  ∀ ⦃m : Nat⦄ ⦃Z : Nat → Prop⦄ ⦃w : World⦄ ⦃i j : Nat⦄, IsOk c ws W mb cap nb m → i < j → j ≤ ws.length → (j - i) * 11 ≤ m → Cut c ws W mb cap nb Z w →
    Calls Tryz.prog 73 #[.pointer (some ⟨c, 0, none⟩), .int .i64 i, .int .i64 j] w (Res c ws W mb cap nb Z w (bClauses ws (Dv ws) i j))

theorem Res.dv {c : Nat} {ws : List RW} {W : Value} {mb cap nb : Nat} {Z : Nat → Prop} {w w' : World} {B : Code → Prop} {k i j : Nat} {p : Value} (hB : ∀ t, B t ↔ Dv ws k i j t) (hA : AnsP B w' (cX mb nb Z) p) (hC : Cs c ws W mb cap nb Z w w') : Res c ws W mb cap nb Z w (Dv ws k i j) (.returned p) w' := by
  refine ⟨p, rfl, ?_, hC⟩
  rcases hA with ⟨h1, h2⟩ | ⟨t, h1, h2⟩
  · exact .inl ⟨h1, fun t ht => h2 t ((hB t).2 ht)⟩
  · exact .inr ⟨t, (hB t).1 h1, h2⟩

theorem dv_of {ws : List RW} {B : Code → Prop} {k i j : Nat} (hij : i < j) (h : ∀ t, Bd ws (Dv ws) k i j t ↔ (i < j ∧ B t)) (t : Code) : B t ↔ Dv ws k i j t := by
  rw [Dv_iff, h]
  exact ⟨fun h => ⟨hij, h⟩, fun h => h.2⟩

set_option maxHeartbeats 1600000 in
set_option maxRecDepth 100000 in
theorem look0_cut {c : Nat} {ws : List RW} {W : Value} {mb cap nb : Nat} {Z : Nat → Prop} {w : World} {i j : Nat} (IH : IsOk c ws W mb cap nb ((j - i) * 11 + 10)) (hij : i < j) (hj : j ≤ ws.length) (h : Cut c ws W mb cap nb Z w) :
    Calls Tryz.prog 43 #[.pointer (some ⟨c, 0, none⟩), .int .i64 0, .int .i64 i, .int .i64 j] w (Res c ws W mb cap nb Z w (Dv ws 0 i j)) := by
  have hlen := h.len
  have hC0 := Cs.start h
  clear h
  go_enter Tryz.func43, Tryz.ntmps43
  go_wp2_with fail
  refine (exp_cut IH hij hj (by omega) hC0.1).mono ?_
  rintro e w1 ⟨p, rfl, hA, hC⟩
  have HD : Hid _ := dv_of (ws := ws) (k := 0) hij (fun t => Iff.rfl)
  go_wp2_with fail
  go_ret
  exact Res.dv HD.out hA hC

set_option maxHeartbeats 1600000 in
set_option maxRecDepth 100000 in
theorem look1_cut {c : Nat} {ws : List RW} {W : Value} {mb cap nb : Nat} {Z : Nat → Prop} {w : World} {i j : Nat} (IH : IsOk c ws W mb cap nb ((j - i) * 11 + 9)) (hij : i < j) (hj : j ≤ ws.length) (h : Cut c ws W mb cap nb Z w) :
    Calls Tryz.prog 43 #[.pointer (some ⟨c, 0, none⟩), .int .i64 1, .int .i64 i, .int .i64 j] w (Res c ws W mb cap nb Z w (Dv ws 1 i j)) := by
  have hlen := h.len
  have hC0 := Cs.start h
  clear h
  go_enter Tryz.func43, Tryz.ntmps43
  go_wp2_with fail
  refine (infix_cut IH (i := i) (j := j) (l := 2) (r := 2) (a := 2) [61] [60] hij hj (by omega) (by omega) (by omega) (by omega) (by omega) hC0.1).mono ?_
  rintro e w1 ⟨p, rfl, hA, hC⟩
  have HD : Hid _ := dv_of (ws := ws) (k := 1) hij (fun t => Iff.rfl)
  go_wp2_with fail
  go_ret
  exact Res.dv HD.out hA hC

set_option maxHeartbeats 1600000 in
set_option maxRecDepth 100000 in
theorem look2_cut {c : Nat} {ws : List RW} {W : Value} {mb cap nb : Nat} {Z : Nat → Prop} {w : World} {i j : Nat} (IH : IsOk c ws W mb cap nb ((j - i) * 11 + 8)) (hij : i < j) (hj : j ≤ ws.length) (h : Cut c ws W mb cap nb Z w) :
    Calls Tryz.prog 43 #[.pointer (some ⟨c, 0, none⟩), .int .i64 2, .int .i64 i, .int .i64 j] w (Res c ws W mb cap nb Z w (Dv ws 2 i j)) := by
  have hlen := h.len
  have hC0 := Cs.start h
  clear h
  go_enter Tryz.func43, Tryz.ntmps43
  go_wp2_with fail
  refine (infix_cut IH (i := i) (j := j) (l := 3) (r := 2) (a := 3) [58, 58] [58, 58] hij hj (by omega) (by omega) (by omega) (by omega) (by omega) hC0.1).mono ?_
  rintro e w1 ⟨p, rfl, hA, hC⟩
  have HD : Hid _ := dv_of (ws := ws) (k := 2) hij (fun t => Iff.rfl)
  go_wp2_with fail
  go_ret
  exact Res.dv HD.out hA hC

set_option maxHeartbeats 1600000 in
set_option maxRecDepth 100000 in
theorem look3_cut {c : Nat} {ws : List RW} {W : Value} {mb cap nb : Nat} {Z : Nat → Prop} {w : World} {i j : Nat} (IH : IsOk c ws W mb cap nb ((j - i) * 11 + 7)) (hij : i < j) (hj : j ≤ ws.length) (h : Cut c ws W mb cap nb Z w) :
    Calls Tryz.prog 43 #[.pointer (some ⟨c, 0, none⟩), .int .i64 3, .int .i64 i, .int .i64 j] w (Res c ws W mb cap nb Z w (Dv ws 3 i j)) := by
  have hlen := h.len
  have hC0 := Cs.start h
  clear h
  go_enter Tryz.func43, Tryz.ntmps43
  go_wp2_with fail
  refine (infix_cut IH (i := i) (j := j) (l := 3) (r := 4) (a := 4) [43] [45] hij hj (by omega) (by omega) (by omega) (by omega) (by omega) hC0.1).mono ?_
  rintro e w1 ⟨p, rfl, hA, hC⟩
  have HD : Hid _ := dv_of (ws := ws) (k := 3) hij (fun t => Iff.rfl)
  go_wp2_with fail
  go_ret
  exact Res.dv HD.out hA hC

set_option maxHeartbeats 1600000 in
set_option maxRecDepth 100000 in
theorem look4_cut {c : Nat} {ws : List RW} {W : Value} {mb cap nb : Nat} {Z : Nat → Prop} {w : World} {i j : Nat} (IH : IsOk c ws W mb cap nb ((j - i) * 11 + 6)) (hij : i < j) (hj : j ≤ ws.length) (h : Cut c ws W mb cap nb Z w) :
    Calls Tryz.prog 43 #[.pointer (some ⟨c, 0, none⟩), .int .i64 4, .int .i64 i, .int .i64 j] w (Res c ws W mb cap nb Z w (Dv ws 4 i j)) := by
  have hlen := h.len
  have hC0 := Cs.start h
  clear h
  go_enter Tryz.func43, Tryz.ntmps43
  go_wp2_with fail
  refine (infix_cut IH (i := i) (j := j) (l := 4) (r := 5) (a := 5) [42] [47] hij hj (by omega) (by omega) (by omega) (by omega) (by omega) hC0.1).mono ?_
  rintro e w1 ⟨p, rfl, hA, hC⟩
  have HD : Hid _ := dv_of (ws := ws) (k := 4) hij (fun t => Iff.rfl)
  go_wp2_with fail
  go_ret
  exact Res.dv HD.out hA hC

set_option maxHeartbeats 1600000 in
set_option maxRecDepth 100000 in
theorem look5_cut {c : Nat} {ws : List RW} {W : Value} {mb cap nb : Nat} {Z : Nat → Prop} {w : World} {i j : Nat} (IH : IsOk c ws W mb cap nb ((j - i) * 11 + 5)) (hij : i < j) (hj : j ≤ ws.length) (h : Cut c ws W mb cap nb Z w) :
    Calls Tryz.prog 43 #[.pointer (some ⟨c, 0, none⟩), .int .i64 5, .int .i64 i, .int .i64 j] w (Res c ws W mb cap nb Z w (Dv ws 5 i j)) := by
  have hlen := h.len
  have hC0 := Cs.start h
  clear h
  go_enter Tryz.func43, Tryz.ntmps43
  go_wp2_with fail
  refine (app_cut IH hij hj (by omega) hC0.1).mono ?_
  rintro e w1 ⟨p, rfl, hA, hC⟩
  have HD : Hid _ := dv_of (ws := ws) (k := 5) hij (fun t => Iff.rfl)
  go_wp2_with fail
  go_ret
  exact Res.dv HD.out hA hC

set_option maxHeartbeats 1600000 in
set_option maxRecDepth 100000 in
theorem look6_cut {c : Nat} {ws : List RW} {W : Value} {mb cap nb : Nat} {Z : Nat → Prop} {w : World} {i j : Nat} (IH : IsOk c ws W mb cap nb ((j - i) * 11 + 4)) (hij : i < j) (hj : j ≤ ws.length) (h : Cut c ws W mb cap nb Z w) :
    Calls Tryz.prog 43 #[.pointer (some ⟨c, 0, none⟩), .int .i64 6, .int .i64 i, .int .i64 j] w (Res c ws W mb cap nb Z w (Dv ws 6 i j)) := by
  have hlen := h.len
  have hC0 := Cs.start h
  clear h
  go_enter Tryz.func43, Tryz.ntmps43
  go_wp2_with fail
  refine (atom_cut IH hij hj (by omega) hC0.1).mono ?_
  rintro e w1 ⟨p, rfl, hA, hC⟩
  have HD : Hid _ := dv_of (ws := ws) (k := 6) hij (fun t => Iff.rfl)
  go_wp2_with fail
  go_ret
  exact Res.dv HD.out hA hC

set_option maxHeartbeats 1600000 in
set_option maxRecDepth 100000 in
theorem look7_cut {c : Nat} {ws : List RW} {W : Value} {mb cap nb : Nat} {Z : Nat → Prop} {w : World} {i j : Nat} (IH : IsOk c ws W mb cap nb ((j - i) * 11 + 3)) (hij : i < j) (hj : j ≤ ws.length) (h : Cut c ws W mb cap nb Z w) :
    Calls Tryz.prog 43 #[.pointer (some ⟨c, 0, none⟩), .int .i64 7, .int .i64 i, .int .i64 j] w (Res c ws W mb cap nb Z w (Dv ws 7 i j)) := by
  have hlen := h.len
  have hC0 := Cs.start h
  clear h
  go_enter Tryz.func43, Tryz.ntmps43
  go_wp2_with fail
  refine (infix_cut IH (i := i) (j := j) (l := 8) (r := 7) (a := 8) [58, 58] [58, 58] hij hj (by omega) (by omega) (by omega) (by omega) (by omega) hC0.1).mono ?_
  rintro e w1 ⟨p, rfl, hA, hC⟩
  have HD : Hid _ := dv_of (ws := ws) (k := 7) hij (fun t => Iff.rfl)
  go_wp2_with fail
  go_ret
  exact Res.dv HD.out hA hC

set_option maxHeartbeats 1600000 in
set_option maxRecDepth 100000 in
theorem look8_cut {c : Nat} {ws : List RW} {W : Value} {mb cap nb : Nat} {Z : Nat → Prop} {w : World} {i j : Nat} (IH : IsOk c ws W mb cap nb ((j - i) * 11 + 2)) (hij : i < j) (hj : j ≤ ws.length) (h : Cut c ws W mb cap nb Z w) :
    Calls Tryz.prog 43 #[.pointer (some ⟨c, 0, none⟩), .int .i64 8, .int .i64 i, .int .i64 j] w (Res c ws W mb cap nb Z w (Dv ws 8 i j)) := by
  have hlen := h.len
  have hC0 := Cs.start h
  clear h
  go_enter Tryz.func43, Tryz.ntmps43
  go_wp2_with fail
  refine (simple_cut IH hij hj (by omega) hC0.1).mono ?_
  rintro e w1 ⟨p, rfl, hA, hC⟩
  have HD : Hid _ := dv_of (ws := ws) (k := 8) hij (fun t => Iff.rfl)
  go_wp2_with fail
  go_ret
  exact Res.dv HD.out hA hC

set_option maxHeartbeats 1600000 in
set_option maxRecDepth 100000 in
theorem look9_cut {c : Nat} {ws : List RW} {W : Value} {mb cap nb : Nat} {Z : Nat → Prop} {w : World} (hcl : ClOk c ws W mb cap nb) {i j : Nat} (IH : IsOk c ws W mb cap nb ((j - i) * 11 + 1)) (hij : i < j) (hj : j ≤ ws.length) (h : Cut c ws W mb cap nb Z w) :
    Calls Tryz.prog 43 #[.pointer (some ⟨c, 0, none⟩), .int .i64 9, .int .i64 i, .int .i64 j] w (Res c ws W mb cap nb Z w (Dv ws 9 i j)) := by
  have hlen := h.len
  have hC0 := Cs.start h
  clear h
  go_enter Tryz.func43, Tryz.ntmps43
  go_wp2_with fail
  refine (hcl IH hij hj (by omega) hC0.1).mono ?_
  rintro e w1 ⟨p, rfl, hA, hC⟩
  have HD : Hid _ := dv_of (ws := ws) (k := 9) hij (fun t => Iff.rfl)
  go_wp2_with fail
  go_ret
  exact Res.dv HD.out hA hC

set_option maxHeartbeats 1600000 in
set_option maxRecDepth 100000 in
theorem look10_cut {c : Nat} {ws : List RW} {W : Value} {mb cap nb : Nat} {Z : Nat → Prop} {w : World} {i j : Nat} (IH : IsOk c ws W mb cap nb ((j - i) * 11 + 0)) (hij : i < j) (hj : j ≤ ws.length) (h : Cut c ws W mb cap nb Z w) :
    Calls Tryz.prog 43 #[.pointer (some ⟨c, 0, none⟩), .int .i64 10, .int .i64 i, .int .i64 j] w (Res c ws W mb cap nb Z w (Dv ws 10 i j)) := by
  have hlen := h.len
  have hC0 := Cs.start h
  clear h
  go_enter Tryz.func43, Tryz.ntmps43
  go_wp2_with fail
  refine (defs_cut IH hij hj (by omega) hC0.1).mono ?_
  rintro e w1 ⟨p, rfl, hA, hC⟩
  have HD : Hid _ := dv_of (ws := ws) (k := 10) hij (fun t => Iff.rfl)
  go_wp2_with fail
  go_ret
  exact Res.dv HD.out hA hC

theorem look_cut {c : Nat} {ws : List RW} {W : Value} {mb cap nb : Nat} (hcl : ClOk c ws W mb cap nb) {k i j : Nat} (hk : k ≤ 10) (IH : IsOk c ws W mb cap nb ((j - i) * 11 + (10 - k))) (hij : i < j) (hj : j ≤ ws.length) : LookOk c ws W mb cap nb k i j := by
  intro Z w h
  have hk' : k = 0 ∨ k = 1 ∨ k = 2 ∨ k = 3 ∨ k = 4 ∨ k = 5 ∨ k = 6 ∨ k = 7 ∨ k = 8 ∨ k = 9 ∨ k = 10 := by omega
  rcases hk' with rfl | rfl | rfl | rfl | rfl | rfl | rfl | rfl | rfl | rfl | rfl
  · exact look0_cut IH hij hj h
  · exact look1_cut IH hij hj h
  · exact look2_cut IH hij hj h
  · exact look3_cut IH hij hj h
  · exact look4_cut IH hij hj h
  · exact look5_cut IH hij hj h
  · exact look6_cut IH hij hj h
  · exact look7_cut IH hij hj h
  · exact look8_cut IH hij hj h
  · exact look9_cut hcl IH hij hj h
  · exact look10_cut IH hij hj h

/-- All stretches. -/
theorem isOk_all {c : Nat} {ws : List RW} {W : Value} {mb cap nb : Nat} (hcl : ClOk c ws W mb cap nb) : ∀ m, IsOk c ws W mb cap nb m := by
  intro m
  induction m with
  | zero => intro Z k i j kv iv jv w _ _ _ _ _ _ h; omega
  | succ m ih =>
    intro Z k i j kv iv jv w h1 h2 h3 hk hi hj hm h
    subst h1 h2 h3
    refine is_cut hk hi hj (fun hij => look_cut hcl hk ?_ hij hj) h
    intro Z k' i' j' kv iv jv w h1 h2 h3 hk' hi' hj' hm' h'
    exact ih k' i' j' kv iv jv w h1 h2 h3 hk' hi' hj' (by omega) h'
end Go.Proofs.YtnbhnjokpcdnnaaGreatDoor

namespace Go.Proofs.YtnbhnjokpcdnnaaGreatDoor
open Go.RowKit

def NoBar (ws : List RW) (p j e : Nat) : Prop := p + 2 ≤ e → ∀ b, Dv ws 0 (p + 1) e b → e ≠ j ∧ (e < j → wd ws e [124] = true → ∀ bs qs, ¬ Dv ws 9 (e + 1) j (nd [99, 108, 97, 117, 115, 101, 115] 0 [] [] bs qs))
def NoCl (ws : List RW) (i j p : Nat) : Prop := i + 1 ≤ p → wd ws p [45, 62] = true → ∀ q, Dv ws 7 i p q → ∀ e, e < j + 1 → NoBar ws p j e

theorem NoCl.all {ws : List RW} {i j : Nat} (h : ∀ p, p < j → NoCl ws i j p) (t : Code) : ¬ bClauses ws (Dv ws) i j t := by
  rintro ⟨p, q, g1, g2, g3, g4, e, b, g5, g6, g7, ⟨g8, g9⟩ | ⟨g8, g9, bs, qs, g10, g11⟩⟩
  · exact (h p g2 g1 g3 q g4 e (by omega) g5 b g7).1 g8
  · exact (h p g2 g1 g3 q g4 e (by omega) g5 b g7).2 g8 g9 bs qs g10

theorem row1 {w : World} {base g : Nat} {v : Value} (hb : base ≤ g) (h : w.heap[g]? = some (.cells #[v] 26 (0, 0))) : w.ownsRow base 26 1 (.slice (some ⟨g, 0, none⟩) 1 1) 1 [v] :=
  ⟨rfl, .inr ⟨g, 1, #[v], rfl, hb, h, Nat.le_refl _, by unfold maxLen; omega, rfl, rfl⟩⟩

theorem own_ne {g g' q n a b c d : Nat} (hv : (Value.slice (some ⟨g', 0, none⟩) a b).ownBlock = (Value.slice (some ⟨g, 0, none⟩) c d).ownBlock ∨ (Value.slice (some ⟨g', 0, none⟩) a b).ownBlock = some n) (h1 : g ≠ q) (h2 : n ≠ q) : g' ≠ q := by
  rcases hv with h | h
  · cases h; exact h1
  · cases h; exact h2

theorem node_facts {w : World} {q : Nat} {v0 v1 v2 v3 v4 v5 : Value} (h : w.heap[q]? = some (.cells #[v0, v1, v2, v3, v4, v5] 70 (0, 0))) : w.cell? ⟨q, 4, none⟩ = some v4 ∧ w.cell? ⟨q, 5, none⟩ = some v5 ∧ w.frozen? ⟨q, 4, none⟩ = false ∧ w.frozen? ⟨q, 5, none⟩ = false ∧ q < w.heap.size := by
  refine ⟨?_, ?_, ?_, ?_, (Array.getElem?_eq_some_iff.1 h).1⟩ <;> simp [World.cell?, World.frozen?, h]

set_option maxHeartbeats 6400000 in
set_option maxRecDepth 100000 in
theorem clauses_cut {c : Nat} {ws : List RW} {W : Value} {mb cap nb m : Nat} {Z : Nat → Prop} {w : World} (IH : IsOk c ws W mb cap nb m) {i j : Nat} (hij : i < j) (hj : j ≤ ws.length) (hm : (j - i) * 11 ≤ m) (h : Cut c ws W mb cap nb Z w) :
    Calls Tryz.prog 73 #[.pointer (some ⟨c, 0, none⟩), .int .i64 i, .int .i64 j] w (Res c ws W mb cap nb Z w (bClauses ws (Dv ws) i j)) := by
  have hlen := h.len
  have hC0 := Cs.start h
  clear h
  go_enter Tryz.func73, Tryz.ntmps73
  go_wp2_with fail
  go_loopg [7] (j - (i + 1)) (fun m pv wr => ∃ p : Nat, pv = .int .i64 p ∧ i + 1 ≤ p ∧ p ≤ j ∧ m = j - p ∧ Cs c ws W mb cap nb Z w wr ∧ ∀ q, q < p → NoCl ws i j q)
  case atStart => exact ⟨i + 1, by go_num, Nat.le_refl _, by omega, by omega, hC0, fun p h1 h2 => by omega⟩
  case round =>
    clear hC0
    obtain ⟨p, rfl, hp1, hp2, hgk, hC, hst⟩ := hrel
    have HM : Hid (gk = j - p) := hgk
    have HNO : Hid (∀ q, q < p → NoCl ws i j q) := hst
    clear hgk hst
    by_cases hpj : p < j
    · go_wp2_with fail
      refine (hC.word p (by omega) (by omega) [45, 62]).mono ?_
      rintro e w1 ⟨rfl, rfl⟩
      cases hx : wd ws p [45, 62]
      · go_wp2_with fail
        go_roundg (j - (p + 1))
        case measure => rw [HM.out]; omega
        case rel => exact ⟨p + 1, by go_num, by omega, by omega, rfl, hC, no_ext HNO.out (fun _ h => by rw [hx] at h; cases h)⟩
      · have HS : Hid (wd ws p [45, 62] = true) := hx
        clear hx
        go_wp2_with fail
        refine (IH 7 i p _ _ _ _ (by omega) (by omega) (by omega) (by omega) (by omega) (by omega) (by omega) hC.1).mono ?_
        rintro e w2 ⟨pq, rfl, hA, hC2⟩
        have hC3 := hC.go hC2
        clear hC hC2
        go_wp2_with fail
        go_loopg [10] (j + 1 - (p + 2)) (fun m pv wr => ∃ r : Nat, pv = .int .i64 r ∧ p + 2 ≤ r ∧ r ≤ j + 2 ∧ m = j + 1 - r ∧ Cs c ws W mb cap nb Z w wr ∧ AnsP (Dv ws 7 i p) wr (cX mb nb Z) pq ∧ ∀ q, q < r → NoBar ws p j q)
        case atStart => exact ⟨p + 2, by go_num, Nat.le_refl _, by omega, by omega, hC3, hA, fun q h1 h2 => by omega⟩
        case round =>
          clear hC3 hA
          obtain ⟨r, rfl, hr1, hr2, hgk, hC, hA, hst⟩ := hrel
          have HM2 : Hid (gk = j + 1 - r) := hgk
          have HNE : Hid (∀ q, q < r → NoBar ws p j q) := hst
          clear hgk hst
          rcases hA with ⟨rfl, hno⟩ | ⟨tq, hDq, hNq⟩
          · have HNX : Hid (∀ t, ¬ Dv ws 7 i p t) := hno
            clear hno
            by_cases hrj : r ≤ j
            all_goals
              go_wp2_with fail
              go_roundg (j - (p + 1))
              case measure => rw [HM.out]; omega
              case rel => exact ⟨p + 1, by go_num, by omega, by omega, rfl, hC, no_ext HNO.out (fun _ _ a h => (HNX.out a h).elim)⟩
          · obtain ⟨bq, rfl, hbq, hltq⟩ := hNq.ptr
            have HDq : Hid (Dv ws 7 i p tq) := hDq
            clear hDq
            by_cases hrj : r ≤ j
            · go_wp2_with fail
              refine (hC.word r (by omega) (by omega) [124]).mono ?_
              rintro e w1 ⟨rfl, rfl⟩
              by_cases hlt : r < j
              · cases hx : wd ws r [124]
                · go_wp2_with fail
                  go_roundg (j + 1 - (r + 1))
                  case measure => rw [HM2.out]; omega
                  case rel => exact ⟨r + 1, by go_num, by omega, by omega, rfl, hC, .inr ⟨tq, HDq.out, hNq⟩, no_ext HNE.out (fun _ b hb => ⟨by omega, fun _ h => (by rw [hx] at h; cases h)⟩)⟩
                · have HS2 : Hid (wd ws r [124] = true) := hx
                  clear hx
                  go_wp2_with fail
                  refine (IH 0 (p + 1) r _ _ _ _ (by omega) (by omega) (by omega) (by omega) (by omega) (by omega) (by omega) hC.1).mono ?_
                  rintro e w3 ⟨pb, rfl, hB, hC2⟩
                  have hC3 := hC.go hC2
                  have hNq3 := hNq.cs hC2.2
                  clear hC hC2 hNq
                  rcases hB with ⟨rfl, hno⟩ | ⟨tb, hDb, hNb⟩
                  · have HNX : Hid (∀ t, ¬ Dv ws 0 (p + 1) r t) := hno
                    clear hno
                    go_wp2_with fail
                    go_roundg (j + 1 - (r + 1))
                    case measure => rw [HM2.out]; omega
                    case rel => exact ⟨r + 1, by go_num, by omega, by omega, rfl, hC3, .inr ⟨tq, HDq.out, hNq3⟩, no_ext HNE.out (fun _ b hb => (HNX.out b hb).elim)⟩
                  · obtain ⟨bb, rfl, hbb, hltb⟩ := hNb.ptr
                    have HDb : Hid (Dv ws 0 (p + 1) r tb) := hDb
                    clear hDb
                    obtain ⟨n0, hn0⟩ : ∃ n0, n0 = w3.heap.size := ⟨_, rfl⟩
                    have HZ : Hid (Cut c ws W mb cap nb (fun b => Z b ∨ b = n0 ∨ b = n0 + 1 ∨ b = n0 + 2) (((w3.alloc (.cells #[.pointer (some ⟨bq, 0, none⟩)] 26)).alloc (.cells #[.pointer (some ⟨bb, 0, none⟩)] 26)).alloc (.cells #[.string (bs [99, 108, 97, 117, 115, 101, 115]), .int .i64 0, .string (bs []), .string (bs []), .slice (some ⟨w3.heap.size + 1, 0, none⟩) 1 1, .slice (some ⟨w3.heap.size, 0, none⟩) 1 1] 70))) := by
                      refine hC3.1.any (O := fun _ => False) (by repeat (first | exact Fr.refl _ _ | (refine Fr.setCell ?_ (by first | exact .inl rfl | exact .inr (Nat.le_refl _) | (right; simp; omega)) _) | refine Fr.drewN ?_ _ | refine Fr.drew ?_ | refine Fr.alloc ?_ _)) (fun b hb => hb.elim) (fun b hb hz => ?_) (fun b hz => ?_)
                      · rcases hz with hz | hz | hz | hz
                        · exact hz
                        all_goals omega
                      · have := hC3.1.zlt b
                        simp
                        rcases hz with hz | hz | hz | hz
                        · have := this hz; omega
                        all_goals omega
                    go_wp2_with fail
                    refine (IH 9 (r + 1) j _ _ _ _ (by omega) (by omega) (by omega) (by omega) (by omega) (by omega) (by omega) HZ.out).mono ?_
                    rintro e w5 ⟨pm, rfl, hD, hC4⟩
                    have hF35 : Fr (fun b => b = mb) w3 w5 := Fr.trans (b := ((w3.alloc (.cells #[.pointer (some ⟨bq, 0, none⟩)] 26)).alloc (.cells #[.pointer (some ⟨bb, 0, none⟩)] 26)).alloc (.cells #[.string (bs [99, 108, 97, 117, 115, 101, 115]), .int .i64 0, .string (bs []), .string (bs []), .slice (some ⟨w3.heap.size + 1, 0, none⟩) 1 1, .slice (some ⟨w3.heap.size, 0, none⟩) 1 1] 70)) (O := fun b => b = mb) (by repeat (first | exact Fr.refl _ _ | (refine Fr.setCell ?_ (by first | exact .inl rfl | exact .inr (Nat.le_refl _) | (right; simp; omega)) _) | refine Fr.drewN ?_ _ | refine Fr.drew ?_ | refine Fr.alloc ?_ _)) hC4.2 (fun _ h => .inl h)
                    rcases hD with ⟨rfl, hno⟩ | ⟨tm, hDm, hNm⟩
                    · have HNX : Hid (∀ t, ¬ Dv ws 9 (r + 1) j t) := hno
                      clear hno
                      have hC5 : Cs c ws W mb cap nb Z w w5 := ⟨hC4.1.any (O := fun _ => False) (Fr.refl _ _) (fun b hb => hb.elim) (fun b _ hz => .inl hz) (fun b hz => hC4.1.zlt b (.inl hz)), hC3.2.trans hF35 (fun _ h => .inl h)⟩
                      have hNq5 := hNq3.cs hF35
                      clear hC3 hC4 hNq3 hNb HZ hF35
                      go_wp2_with fail
                      go_roundg (j + 1 - (r + 1))
                      case measure => rw [HM2.out]; omega
                      case rel => exact ⟨r + 1, by go_num, by omega, by omega, rfl, hC5, .inr ⟨tq, HDq.out, hNq5⟩, no_ext HNE.out (fun _ b hb => ⟨by omega, fun _ _ bs qs h => HNX.out _ h⟩)⟩
                    · obtain ⟨bm, rfl, hbm, hltm⟩ := hNm.ptr
                      obtain ⟨ds, qs, rfl, hd1, hd2, hd3, hd4⟩ := Dv_clauses _ _ _ _ (Nat.le_refl _) hDm
                      have HDm : Hid (Dv ws 9 (r + 1) j (nd [99, 108, 97, 117, 115, 101, 115] 0 [] [] ds qs)) := hDm
                      obtain ⟨vs, vp, cs, cp, hbs, k4, k5, hrow, hrX, hds, hcl, hrowp, hpX, hqs, hcpl⟩ := hNm.rows
                      obtain ⟨g, gc, rfl, hgl, hgc⟩ := row_form hrow hd1
                      obtain ⟨gp, gpc, rfl, hgpl, hgpc⟩ := row_form hrowp hd3
                      have hmb : mb < w3.heap.size := by
                        obtain ⟨M, h1, _⟩ := hC3.1.memo
                        exact (h1.lt mb rfl).2
                      have c0 : w5.heap[w3.heap.size]? = some (.cells #[.pointer (some ⟨bq, 0, none⟩)] 26 (0, 0)) := by
                        rw [hC4.2.block _ (by simp; omega) (by omega), Below.heap_alloc _ _ _ (by simp; omega), Below.heap_alloc _ _ _ (by simp)]
                        exact blk_at _ rfl
                      have c1 : w5.heap[w3.heap.size + 1]? = some (.cells #[.pointer (some ⟨bb, 0, none⟩)] 26 (0, 0)) := by
                        rw [hC4.2.block _ (by simp) (by omega), Below.heap_alloc _ _ _ (by simp)]
                        exact blk_at _ (by simp)
                      have c2 : w5.heap[w3.heap.size + 2]? = some (.cells #[.string (bs [99, 108, 97, 117, 115, 101, 115]), .int .i64 0, .string (bs []), .string (bs []), .slice (some ⟨w3.heap.size + 1, 0, none⟩) 1 1, .slice (some ⟨w3.heap.size, 0, none⟩) 1 1] 70 (0, 0)) := by
                        rw [hC4.2.block _ (by simp) (by omega)]
                        exact blk_at _ (by simp)
                      obtain ⟨n4, n5, -, -, hq5⟩ := node_facts (q := w3.heap.size + 1 + 1) c2
                      have hle5 : w3.heap.size ≤ w5.heap.size := by omega
                      have hq51 : w3.heap.size + 1 < w5.heap.size := by omega
                      have hbmq : ¬ bm = w3.heap.size + 1 + 1 := fun h => hbm (.inr (.inr (.inr (.inr (.inr (by omega))))))
                      have hbm0 : ¬ bm = w3.heap.size := fun h => hbm (.inr (.inr (.inr (.inl (by omega)))))
                      have hgq : ¬ g = w3.heap.size + 1 + 1 := fun h => hrX g rfl (.inr (.inr (.inr (.inr (.inr (by omega))))))
                      have hg0 : ¬ g = w3.heap.size := fun h => hrX g rfl (.inr (.inr (.inr (.inl (by omega)))))
                      have HGP : Hid (∀ j u, cp[j]? = some u → w5.cell? ((⟨gp, 0, none⟩ : Addr).add j) = some u) := hgpc
                      have HOP : Hid (∀ u ∈ cp, u.oneCell' = true) := hqs.one
                      have HO : Hid (∀ u ∈ cs, u.oneCell' = true) := hds.one
                      have HROW : Hid (w5.ownsRow 0 26 1 (.slice (some ⟨g, 0, none⟩) ds.length gc) ds.length cs) := hrow
                      have HC0 : Hid (w5.heap[w3.heap.size]? = some (.cells #[.pointer (some ⟨bq, 0, none⟩)] 26 (0, 0))) := c0
                      have HC1 : Hid (w5.heap[w3.heap.size + 1]? = some (.cells #[.pointer (some ⟨bb, 0, none⟩)] 26 (0, 0))) := c1
                      have HC2 : Hid (w5.heap[w3.heap.size + 1 + 1]? = some (.cells #[.string (bs [99, 108, 97, 117, 115, 101, 115]), .int .i64 0, .string (bs []), .string (bs []), .slice (some ⟨w3.heap.size + 1, 0, none⟩) 1 1, .slice (some ⟨w3.heap.size, 0, none⟩) 1 1] 70 (0, 0))) := c2
                      have hpl : j ≤ 240 := by omega
                      clear hDm c0 c1 c2 hrow hgc hgpc hrowp
                      go_wp2_with fail
                      go_region_law (refine step_app slPE rfl (.tmp 80) (.tmp 84) rfl w3.heap.size 1 [.pointer (some ⟨bq, 0, none⟩)] _ rfl (row1 (Nat.le_refl _) HC0.out) ⟨gp, 0, none⟩ qs.length gpc cp rfl (by omega) HGP.out HOP.out (by omega) (by unfold maxLen; omega) (by omega) (by simpa using hle5) ?_; rintro v' w6 hown hgrow hv ⟨g', cap', rfl⟩; have HF6 : Hid (Fr (fun b => b = w3.heap.size) w5 w6) := (Fr.refl _ w5).drew.grown hgrow (fun k hk => by cases hk; exact .inl rfl); have HO2 : Hid (w6.ownsRow w3.heap.size 26 1 (.slice (some ⟨g', 0, none⟩) (1 + qs.length) cap') (1 + qs.length) (.pointer (some ⟨bq, 0, none⟩) :: cp)) := hown; have HGN : Hid (g' ≠ w3.heap.size + 1 + 1) := own_ne hv (by omega) (Nat.ne_of_gt hq5); have HGN1 : Hid (g' ≠ w3.heap.size + 1) := own_ne hv (by omega) (Nat.ne_of_gt hq51); have HC6 : w6.heap[w3.heap.size + 1 + 1]? = some (.cells #[.string (bs [99, 108, 97, 117, 115, 101, 115]), .int .i64 0, .string (bs []), .string (bs []), .slice (some ⟨w3.heap.size + 1, 0, none⟩) 1 1, .slice (some ⟨w3.heap.size, 0, none⟩) 1 1] 70 (0, 0)) := (HF6.out.block (w3.heap.size + 1 + 1) hq5 (by show ¬ (w3.heap.size + 1 + 1 = w3.heap.size); omega)).trans HC2.out; obtain ⟨n46, n56, z46, z56, hq6⟩ := node_facts HC6; have k46 : w6.cell? ⟨bm, 4, none⟩ = some (.slice (some ⟨g, 0, none⟩) ds.length gc) := (World.cell?_of_block (HF6.out.block _ hltm hbm0)).trans k4; have hbm6 : bm < w6.heap.size := Nat.lt_of_lt_of_le hltm HF6.out.size; clear hown hgrow hv HC6)
                      all_goals
                        have HC6 := (HF6.out.block (w3.heap.size + 1 + 1) hq5 (by show ¬ (w3.heap.size + 1 + 1 = w3.heap.size); omega)).trans HC2.out
                        have HC7 : Hid ((w6.setCell ⟨w3.heap.size + 1 + 1, 5, none⟩ (.slice (some ⟨g', 0, none⟩) (1 + qs.length) cap')).heap[w3.heap.size + 1 + 1]? = some (.cells #[.string (bs [99, 108, 97, 117, 115, 101, 115]), .int .i64 0, .string (bs []), .string (bs []), .slice (some ⟨w3.heap.size + 1, 0, none⟩) 1 1, .slice (some ⟨g', 0, none⟩) (1 + qs.length) cap'] 70 (0, 0))) := blk_set HC6 (by simp)
                        have HF7 : Hid (Fr (fun b => b = w3.heap.size ∨ b = w3.heap.size + 1 + 1) w5 (w6.setCell ⟨w3.heap.size + 1 + 1, 5, none⟩ (.slice (some ⟨g', 0, none⟩) (1 + qs.length) cap'))) := (HF6.out.mono (fun _ h => .inl (.inl h))).setCell (.inl (.inr rfl)) _
                        have HO7 : Hid ((w6.setCell ⟨w3.heap.size + 1 + 1, 5, none⟩ (.slice (some ⟨g', 0, none⟩) (1 + qs.length) cap')).ownsRow w3.heap.size 26 1 (.slice (some ⟨g', 0, none⟩) (1 + qs.length) cap') (1 + qs.length) (.pointer (some ⟨bq, 0, none⟩) :: cp)) := ownsRow_block HO2.out fun b hb => Below.heap_setCell _ _ _ _ (by cases hb; show g' ≠ w3.heap.size + 1 + 1; exact HGN.out)
                        clear HC6 n46 n56 z46 z56 k46 hbm6 hq6
                        generalize w6.setCell ⟨w3.heap.size + 1 + 1, 5, none⟩ (.slice (some ⟨g', 0, none⟩) (1 + qs.length) cap') = w7 at HC7 HF7 HO7 ⊢
                        obtain ⟨n47, n57, z47, z57, hq7⟩ := node_facts HC7.out
                        have hle7 : w3.heap.size ≤ w7.heap.size := by omega
                        have k47 : w7.cell? ⟨bm, 4, none⟩ = some (.slice (some ⟨g, 0, none⟩) ds.length gc) := (World.cell?_of_block (HF7.out.block _ hltm (by rintro (h | h); exact hbm0 h; exact hbmq h))).trans k4
                        have hbm7 : bm < w7.heap.size := Nat.lt_of_lt_of_le hltm HF7.out.size
                        have HG7 : Hid (∀ j u, cs[j]? = some u → w7.cell? ((⟨g, 0, none⟩ : Addr).add j) = some u) := (ownsRow_block HROW.out (fun b hb => HF7.out.block b (HROW.out.lt b hb).2 (by cases hb; rintro (h | h); exact hg0 h; exact hgq h))).cells rfl
                        have HC17 : Hid (w7.heap[w3.heap.size + 1]? = some (.cells #[.pointer (some ⟨bb, 0, none⟩)] 26 (0, 0))) := (HF7.out.block _ (by omega) (by rintro (h | h) <;> omega)).trans HC1.out
                        go_wp2_with fail
                        go_region_law (refine step_app slPE rfl (.tmp 92) (.tmp 96) rfl w3.heap.size 1 [.pointer (some ⟨bb, 0, none⟩)] _ rfl (row1 (by omega) HC17.out) ⟨g, 0, none⟩ ds.length gc cs rfl (by omega) HG7.out HO.out (by omega) (by unfold maxLen; omega) (by omega) hle7 ?_; rintro v' w8 hown hgrow hv ⟨g2, cap2, rfl⟩; have HF8 : Hid (Fr (fun b => b = w3.heap.size + 1) w7 w8) := (Fr.refl _ w7).drew.grown hgrow (fun k hk => by cases hk; exact .inl rfl); have HO8 : Hid (w8.ownsRow w3.heap.size 26 1 (.slice (some ⟨g2, 0, none⟩) (1 + ds.length) cap2) (1 + ds.length) (.pointer (some ⟨bb, 0, none⟩) :: cs)) := hown; have HGN2 : Hid (g2 ≠ w3.heap.size + 1 + 1) := own_ne hv (by omega) (Nat.ne_of_gt hq7); have HC8 : Hid (w8.heap[w3.heap.size + 1 + 1]? = some (.cells #[.string (bs [99, 108, 97, 117, 115, 101, 115]), .int .i64 0, .string (bs []), .string (bs []), .slice (some ⟨w3.heap.size + 1, 0, none⟩) 1 1, .slice (some ⟨g', 0, none⟩) (1 + qs.length) cap'] 70 (0, 0))) := (HF8.out.block (w3.heap.size + 1 + 1) hq7 (by show ¬ (w3.heap.size + 1 + 1 = w3.heap.size + 1); omega)).trans HC7.out; obtain ⟨n48, n58, z48, z58, hq8⟩ := node_facts HC8.out; clear hown hgrow hv)
                        all_goals
                          go_wp2_with fail
                          go_ret
                          have hclt := hC3.1.lt
                          have hnlt := hC3.1.nbl
                          have HF9 : Fr (fun b => b = w3.heap.size ∨ b = w3.heap.size + 1 ∨ b = w3.heap.size + 1 + 1) w5 (w8.setCell ⟨w3.heap.size + 1 + 1, 4, none⟩ (.slice (some ⟨g2, 0, none⟩) (1 + ds.length) cap2)) := ((HF7.out.mono (fun b h => by rcases h with h | h; exact .inl (.inl h); exact .inl (.inr (.inr h)))).trans HF8.out (fun b h => .inl (.inr (.inl h)))).setCell (.inl (.inr (.inr rfl))) _
                          have HF39 : Fr (fun b => b = mb) w3 (w8.setCell ⟨w3.heap.size + 1 + 1, 4, none⟩ (.slice (some ⟨g2, 0, none⟩) (1 + ds.length) cap2)) := hF35.trans HF9 (fun b h => .inr (by omega))
                          refine ⟨_, rfl, .inr ⟨nd [99, 108, 97, 117, 115, 101, 115] 0 [] [] (tb :: ds) (tq :: qs), ⟨p, tq, hp1, hpj, HS.out, HDq.out, r, tb, hr1, hrj, HDb.out, .inr ⟨hlt, HS2.out, ds, qs, HDm.out, rfl⟩⟩, ?_⟩, ⟨?_, hC3.2.trans HF39 (fun _ h => .inl h)⟩⟩
                          · refine Nd.mk (hC3.1.new (by omega)) (blk_set HC8.out (by simp)) (vs := .slice (some ⟨g2, 0, none⟩) (1 + ds.length) cap2) (vp := .slice (some ⟨g', 0, none⟩) (1 + qs.length) cap') (cs := .pointer (some ⟨bb, 0, none⟩) :: cs) (cp := .pointer (some ⟨bq, 0, none⟩) :: cp) ?_ (fun b hb => by cases hb; exact hC3.1.new (HO8.out.lt _ rfl).1) (.cons (hNb.cs HF39) ?_) ?_ (fun b hb => by cases hb; exact hC3.1.new (HO7.out.lt _ rfl).1) (.cons (hNq3.cs HF39) ?_)
                            · rw [show (Value.pointer (some ⟨bb, 0, none⟩) :: cs).length = 1 + ds.length by simp; omega]
                              exact ownsRow_base (ownsRow_block HO8.out fun b hb => Below.heap_setCell _ _ _ _ (by cases hb; exact HGN2.out)) (fun _ _ => Nat.zero_le _)
                            · exact hds.any (HF9.mono (fun b h => .inl (.inr (.inr (.inr (by omega)))))) (fun b _ hx => by rcases hx with h | h | h; exact .inl h; exact .inr (.inl h); exact .inr (.inr (.inl h)))
                            · rw [show (Value.pointer (some ⟨bq, 0, none⟩) :: cp).length = 1 + qs.length by simp; omega]
                              have hg'7 := (HO7.out.lt g' rfl).2
                              exact ownsRow_base (ownsRow_block HO7.out fun b hb => by cases hb; exact (Below.heap_setCell _ _ _ _ HGN.out).trans (HF8.out.block _ hg'7 HGN1.out)) (fun _ _ => Nat.zero_le _)
                            · exact hqs.any (HF9.mono (fun b h => .inl (.inr (.inr (.inr (by omega)))))) (fun b _ hx => by rcases hx with h | h | h; exact .inl h; exact .inr (.inl h); exact .inr (.inr (.inl h)))
                          · refine hC4.1.any HF9 (fun b h => ⟨.inr (by omega), by omega, by omega, by omega, fun hw => ?_⟩) (fun b _ hz => .inl hz) (fun b hz => Nat.lt_of_lt_of_le (hC4.1.zlt b (.inl hz)) HF9.size)
                            have := (hC3.1.row.lt b hw).2
                            omega
              · obtain rfl : r = j := by omega
                go_wp2_with fail
                refine (IH 0 (p + 1) r _ _ _ _ (by omega) (by omega) (by omega) (by omega) (by omega) (by omega) (by omega) hC.1).mono ?_
                rintro e w3 ⟨pb, rfl, hB, hC2⟩
                have hC3 := hC.go hC2
                have hNq3 := hNq.cs hC2.2
                clear hC hC2 hNq
                rcases hB with ⟨rfl, hno⟩ | ⟨tb, hDb, hNb⟩
                · have HNX : Hid (∀ t, ¬ Dv ws 0 (p + 1) r t) := hno
                  clear hno
                  go_wp2_with fail
                  go_roundg (r + 1 - (r + 1))
                  case measure => rw [HM2.out]; omega
                  case rel => exact ⟨r + 1, by go_num, by omega, by omega, rfl, hC3, .inr ⟨tq, HDq.out, hNq3⟩, no_ext HNE.out (fun _ b hb => (HNX.out b hb).elim)⟩
                · obtain ⟨bb, rfl, hbb, hltb⟩ := hNb.ptr
                  have HDb : Hid (Dv ws 0 (p + 1) r tb) := hDb
                  clear hDb
                  go_wp2_with fail
                  go_ret
                  refine ⟨_, rfl, .inr ⟨nd [99, 108, 97, 117, 115, 101, 115] 0 [] [] [tb] [tq], ⟨p, tq, hp1, hpj, HS.out, HDq.out, r, tb, hr1, hrj, HDb.out, .inl ⟨rfl, rfl⟩⟩, ?_⟩, hC3.fr (by repeat (first | exact Fr.refl _ _ | (refine Fr.setCell ?_ (by first | exact .inl rfl | exact .inr (Nat.le_refl _) | (right; simp; omega)) _) | refine Fr.drewN ?_ _ | refine Fr.drew ?_ | refine Fr.alloc ?_ _))⟩
                  refine hC3.1.nodeR (by repeat (first | exact Fr.refl _ _ | (refine Fr.setCell ?_ (by first | exact .inl rfl | exact .inr (Nat.le_refl _) | (right; simp; omega)) _) | refine Fr.drewN ?_ _ | refine Fr.drew ?_ | refine Fr.alloc ?_ _)) (row1 (g := w3.heap.size + 1) (by omega) ?ra) rfl (.cons hNb .nil) (row1 (base := 0) (g := w3.heap.size) (Nat.zero_le _) ?rb) rfl (fun b hb => by cases hb; exact hC3.1.new (Nat.le_refl _)) (.cons hNq3 .nil) (q := w3.heap.size + 1 + 1) (by omega) ?rc
                  case ra =>
                    rw [Below.heap_alloc _ _ _ (by simp)]
                    exact blk_at _ (by simp)
                  case rb =>
                    rw [Below.heap_alloc _ _ _ (by simp; omega), Below.heap_alloc _ _ _ (by simp)]
                    exact blk_at _ rfl
                  case rc => exact blk_at _ (by simp)
            · go_wp2_with fail
              go_roundg (j - (p + 1))
              case measure => rw [HM.out]; omega
              case rel => exact ⟨p + 1, by go_num, by omega, by omega, rfl, hC, no_ext HNO.out (fun _ _ _ _ e he => HNE.out e (by omega))⟩
    · go_wp2_with fail
      go_ret
      exact ⟨_, rfl, .inl ⟨rfl, NoCl.all (fun q hq => HNO.out q (by omega))⟩, hC⟩
end Go.Proofs.YtnbhnjokpcdnnaaGreatDoor

namespace Go.Proofs.YtnbhnjokpcdnnaaGreatDoor
open Go.RowKit

theorem isOk_cut {c : Nat} {ws : List RW} {W : Value} {mb cap nb : Nat} (m : Nat) : IsOk c ws W mb cap nb m :=
  isOk_all (fun _ _ _ _ _ IH hij hj hm h => clauses_cut IH hij hj hm h) m

set_option maxHeartbeats 3200000 in
set_option maxRecDepth 100000 in
/-- Parse: the words' tree, or nil. -/
theorem parse_ref {ws : List RW} {W : Value} {w : World} (hrow : w.ownsRow 0 65 3 W ws.length (rwCells ws)) (hlen : ws.length ≤ 240) :
    Calls Tryz.prog 11 #[W] w (fun e w' => ∃ p, e = .returned p ∧ AnsP (Dv ws 0 0 ws.length) w' (fun _ => False) p ∧ Fr (fun _ => False) w w') := by
  obtain ⟨n, hn⟩ : ∃ n, n = ws.length := ⟨_, rfl⟩
  obtain ⟨m1, hm1⟩ : ∃ m1, m1 = 11 * (n + 1) := ⟨_, rfl⟩
  obtain ⟨tn, htn⟩ : ∃ tn, tn = m1 * (n + 1) := ⟨_, rfl⟩
  have hT : tn = tabN ws.length := by rw [htn, hm1, hn]; unfold tabN; rw [Nat.mul_assoc]
  have b0 : n ≤ 240 := by omega
  have b1 : m1 ≤ 2651 := by omega
  have b2 : tn ≤ 638891 := by rw [htn]; exact Nat.le_trans (Nat.mul_le_mul b1 (by omega : n + 1 ≤ 241)) (by omega)
  have E1 : (11 : Int) * ((n : Int) + 1) = (m1 : Int) := by rw [hm1]; simp
  have E2 : (m1 : Int) * ((n : Int) + 1) = (tn : Int) := by rw [htn]; simp
  have hmk := run_make_row' (P := Tryz.prog) 68 26 (.pointer none) 8 Tryz.underlying68 Tryz.infoPE rfl .i64 .i64 tn (by omega) (by omega)
  have HT : Hid (tn = tabN ws.length) := hT
  have HN : Hid (n = ws.length) := hn
  have HR : Hid (w.ownsRow 0 65 3 W ws.length (rwCells ws)) := hrow
  have hWf : ∃ a c, W = .slice a n c := by
    rcases hrow.2 with ⟨rfl, h0⟩ | ⟨g, cp, cur, rfl, _⟩
    · exact ⟨none, 0, by rw [hn, h0]⟩
    · exact ⟨_, _, by rw [hn]⟩
  obtain ⟨wa, wc, rfl⟩ := hWf
  clear hrow htn hm1 hT hn
  go_enter Tryz.func11, Tryz.ntmps11
  go_wp2_with fail
  have HC : Hid (Cut (w.heap.size + 2) ws (.slice wa n wc) (w.heap.size + 1) tn w.heap.size (fun _ => False) (((w.alloc (.cells #[.string (bs []), .int .i64 0, .string (bs []), .string (bs []), .slice none 0 0, .slice none 0 0] 70)).alloc (.cells (madeCells #[.pointer none] tn) 26)).alloc (.cells #[.slice wa n wc, .int .i64 n, .slice (some ⟨w.heap.size + 1, 0, none⟩) tn tn, .pointer (some ⟨w.heap.size, 0, none⟩)] 72))) := by
    show Cut _ _ _ _ _ _ _ _
    have hn := HN.out
    have hT := HT.out
    subst hn hT
    have hb : ∀ b, b < w.heap.size → ∀ o1 o2 o3 : Obj, (((w.alloc o1).alloc o2).alloc o3).heap[b]? = w.heap[b]? := fun b hb o1 o2 o3 => by
      rw [Below.heap_alloc _ _ _ (by simp; omega), Below.heap_alloc _ _ _ (by simp; omega), Below.heap_alloc _ _ _ hb]
    refine ⟨blk_at _ (by simp), ownsRow_block HR.out fun b hb' => hb b (HR.out.lt b hb').2 _ _ _, fun h => ?_, by omega, by omega, ⟨#[.string (bs []), .int .i64 0, .string (bs []), .string (bs []), .slice none 0 0, .slice none 0 0], 70, ?_⟩, ⟨(madeCells #[.pointer none] (tabN ws.length)).toList, ?_, fun k i j hk hi hj => ?_⟩, hlen, fun _ h => h.elim⟩
    · have := (HR.out.lt _ h).2
      omega
    · rw [Below.heap_alloc _ _ _ (by simp; omega), Below.heap_alloc _ _ _ (by simp)]
      exact blk_at _ rfl
    · refine ownsRow_block (w := (w.alloc (.cells #[.string (bs []), .int .i64 0, .string (bs []), .string (bs []), .slice none 0 0, .slice none 0 0] 70)).alloc (.cells (madeCells #[.pointer none] (tabN ws.length)) 26)) ?_ (fun b hb => by cases hb; exact Below.heap_alloc _ _ _ (by simp))
      have := World.ownsRow_lit (base := 0) (e := 26) (size := 1) (w.alloc (.cells #[.string (bs []), .int .i64 0, .string (bs []), .string (bs []), .slice none 0 0, .slice none 0 0] 70)) (madeCells #[.pointer none] (tabN ws.length)) (tabN ws.length) (Nat.zero_le _) (by unfold maxLen; omega) (by rw [size_madeCells]; simp)
      simpa using this
    · have hat := tabAt_lt (n := ws.length) hk hi hj
      exact ⟨.pointer none, by simp [madeCells, hat, Nat.mod_one], .inl rfl⟩
  refine (isOk_cut (c := w.heap.size + 2) (ws := ws) (W := .slice wa n wc) (mb := w.heap.size + 1) (cap := tn) (nb := w.heap.size) (ws.length * 11 + 11) 0 0 ws.length _ _ _ _ rfl rfl (by rw [HN.out]) (by omega) (by omega) (by omega) (by omega) HC.out).mono ?_
  rintro e w1 ⟨p, rfl, hA, hC⟩
  have HF : Hid (Fr (fun _ => False) w w1) := by
    refine Fr.trans (b := ((w.alloc (.cells #[.string (bs []), .int .i64 0, .string (bs []), .string (bs []), .slice none 0 0, .slice none 0 0] 70)).alloc (.cells (madeCells #[.pointer none] tn) 26)).alloc (.cells #[.slice wa n wc, .int .i64 n, .slice (some ⟨w.heap.size + 1, 0, none⟩) tn tn, .pointer (some ⟨w.heap.size, 0, none⟩)] 72)) ?_ hC.2 (fun b h => .inr (by omega))
    exact (((Fr.refl _ w).alloc _).alloc _).alloc _
  have HA : Hid (AnsP (Dv ws 0 0 ws.length) w1 (fun _ => False) p) := by
    rcases hA with h | ⟨t, h1, h2⟩
    · exact .inl h
    · exact .inr ⟨t, h1, h2.any (Fr.refl _ _) (fun _ _ h => h.elim)⟩
  clear hA hC HC
  go_wp2_with fail
  go_ret
  exact ⟨_, rfl, HA.out, HF.out⟩
end Go.Proofs.YtnbhnjokpcdnnaaGreatDoor
