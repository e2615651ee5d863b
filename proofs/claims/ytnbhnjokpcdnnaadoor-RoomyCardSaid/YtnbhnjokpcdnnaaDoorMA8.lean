import Derived.Test.YtnbhnjokpcdnnaaDoorMA0
set_option linter.unusedVariables false
set_option linter.unusedSimpArgs false
namespace Go.Proofs.YtnbhnjokpcdnnaaDoor
section
variable {names : List (List UInt8)} {L : List (Int × Int)} {ws : List RW} {n : Nat} {s : RS}

theorem one_of (hW : WsOk names L ws) {i : Nat} (h : kd L i = 2 ∨ kd L i = 19 ∨ kd L i = 1 ∨ kd L i = 20 ∨ kd L i = 21 ∨ kd L i = 25) : ∃ t, one1 ws i t := by
  unfold one1
  rcases h with h | h | h | h | h | h
  · have := (kd_nm hW i).1 h
    unfold isNm at this
    rw [Bool.and_eq_true] at this
    rw [this.2]
    exact ⟨_, rfl⟩
  · obtain ⟨h3, h4, -⟩ := wd_tx ((kw hW (k := 16) rfl rfl).1 h)
    rw [h3, h4]
    exact ⟨_, rfl⟩
  · obtain ⟨h3, h4⟩ := kd_num hW h
    rw [h3, h4]
    exact ⟨_, rfl⟩
  · obtain ⟨h3, h4, -⟩ := wd_tx ((kw hW (k := 17) rfl rfl).1 h)
    rw [h3, h4]
    exact ⟨_, rfl⟩
  · obtain ⟨h3, h4, -⟩ := wd_tx ((kw hW (k := 18) rfl rfl).1 h)
    rw [h3, h4]
    exact ⟨_, rfl⟩
  · obtain ⟨h3, h4, -⟩ := wd_tx ((kw hW (k := 22) rfl rfl).1 h)
    rw [h3, h4]
    exact ⟨_, rfl⟩

theorem begA_ne {k : Int} (h : begA k = true) (h32 : ¬ k = 32) : ¬ atomK k = 0 := by
  unfold begA at h
  rw [if_neg h32] at h
  simpa using h

theorem q_atom (hW : WsOk names L ws) (IH : IhP L ws n) (h : Pre L (n + 1) 14 s) : Q L ws 14 s (rdr L (n + 1) 14 s) := by
  have LV := lv
  have SV := slv
  have PV := plv
  obtain ⟨p0, p1, p2, hk⟩ := h
  show Q L ws 14 s (tAtom L (rdr L n) s)
  unfold tAtom
  have hk1 : (rPeek L s).1 = kd L s.pos := rfl
  rw [hk1]
  by_cases h32 : kd L s.pos = 32
  · rw [if_pos h32]
    obtain ⟨s1, x1, e1, q1, q2, q3, q5, q4⟩ := IH.go 15 s (by decide) p0 (by omega) (by omega) h32
    exact ⟨s1, x1, e1, q1, q2, by omega, fun _ => q5 (.inr rfl), q4⟩
  rw [if_neg h32]
  by_cases hz : atomK (kd L s.pos) = 0
  · rw [if_pos hz]
    have hst : rStep L (rFail L s) = { s with bad := true, pos := L.length } := by
      unfold rStep rFail
      simp
    rw [hst, add_q _ _ (by show sz s ≤ _; omega)]
    refine ⟨_, _, rfl, p0, Nat.le_refl _, ?_, fun _ hb => (begA_ne hb h32 hz).elim, fun hb => nomatch hb⟩
    rw [sz_e]
    show sz s + 1 + 3 * s.pos ≤ sz s + 3 * L.length + sl 14
    omega
  · rw [if_neg hz]
    have hlt : s.pos < L.length := kd_in (by have := atomK_ne hz; omega)
    rw [step_q L s hlt, add_q _ _ (by show sz s ≤ _; omega)]
    refine ⟨_, _, rfl, Nat.le_succ _, hlt, ?_, fun _ _ => ⟨Nat.lt_succ_self _, ?_⟩, fun hb => ⟨hb, ?_⟩⟩
    · rw [sz_e]
      show sz s + 1 + 3 * s.pos ≤ sz s + 3 * (s.pos + 1) + sl 14
      omega
    · rw [sz_e]
      show sz s + 1 + 3 * s.pos + 1 ≤ sz s + 3 * (s.pos + 1)
      omega
    · obtain ⟨t, ht⟩ := one_of hW (atomK_ne hz)
      refine ⟨t, Dv_out ⟨Nat.lt_succ_self _, ?_⟩⟩
      show bAtom ws _ _ _ _
      unfold bAtom
      rw [if_pos rfl]
      exact ht

theorem q_brackets (hW : WsOk names L ws) (IH : IhP L ws n) (h : Pre L (n + 1) 15 s) : Q L ws 15 s (rdr L (n + 1) 15 s) := by
  have LV := lv
  have SV := slv
  have PV := plv
  obtain ⟨p0, p1, p2, hk⟩ := h
  replace hk : kd L s.pos = 32 := hk
  have hlt : s.pos < L.length := kd_in (by omega)
  show Q L ws 15 s (tBrackets L (rdr L n) s)
  unfold tBrackets
  obtain ⟨s1, e1, z1, a1, b1, c1, d1⟩ := wq L 32 (by decide) s p0
  have d1' := d1 hk
  have hw := (kw hW (k := 29) rfl rfl).1 hk
  rw [e1]
  obtain ⟨s2, x2, e2, q1, q2, q3, -, q4⟩ := IH.go 0 s1 (by decide) b1 (by omega) (by omega) trivial
  rw [e2]
  simp only [Option.bind_some]
  rcases take_q L 34 (by decide) s2 with ⟨k4, l4, e4⟩ | ⟨k4, e4⟩
  · rw [e4]
    simp only [if_true]
    obtain ⟨s3, x3, e3, r1, r2, r3, -, r4⟩ := IH.go 0 { s2 with pos := s2.pos + 1 } (by decide) l4 (by simp only [sz_at]; omega) (by simp only []; omega) trivial
    rw [e3]
    simp only [Option.bind_some, sz_at] at r1 r3 ⊢
    rw [add_q _ _ (by omega)]
    simp only [Option.bind_some]
    obtain ⟨s5, e5, z5, a5, b5, c5, -⟩ := wq L 33 (by decide) { s3 with exps := s3.exps ++ [⟨7, 0, 0, x2, x3, 0, [], []⟩] } r2
    rw [e5]
    rw [sz_e] at z5
    simp only [] at a5 c5
    refine ⟨s5, _, rfl, by omega, b5, by omega, fun _ _ => ⟨by omega, by omega⟩, fun hb => ?_⟩
    obtain ⟨y1, y2, y3⟩ := c5 hb
    obtain ⟨y4, t3, y5⟩ := r4 y1
    obtain ⟨y6, t2, y7⟩ := q4 y4
    have g1 : s2.pos + 1 < s3.pos := Dv_lt y5
    have g2 := Dv_lt y7
    refine ⟨(c1 y6).1, nd [112, 97, 105, 114] 0 [] [] [t2, t3] [], Dv_out ⟨by omega, ?_⟩⟩
    show bAtom ws _ _ _ _
    unfold bAtom
    rw [if_neg (by omega)]
    refine ⟨hw, ?_, .inr ⟨s2.pos, t2, t3, by omega, by omega, (kw hW (k := 31) rfl rfl).1 k4, ?_, ?_, rfl⟩⟩
    · rw [show s5.pos - 1 = s3.pos by omega]; exact (kw hW (k := 30) rfl rfl).1 y2
    · rw [← d1']; exact y7
    · rw [show s5.pos - 1 = s3.pos by omega]; exact y5
  · rw [e4]
    simp only [Bool.false_eq_true, if_false]
    obtain ⟨s5, e5, z5, a5, b5, c5, -⟩ := wq L 33 (by decide) s2 q2
    rw [e5]
    refine ⟨s5, _, rfl, by omega, b5, by omega, fun _ _ => ⟨by omega, by omega⟩, fun hb => ?_⟩
    obtain ⟨y1, y2, y3⟩ := c5 hb
    obtain ⟨y6, t2, y7⟩ := q4 y1
    have g2 := Dv_lt y7
    refine ⟨(c1 y6).1, t2, Dv_out ⟨by omega, ?_⟩⟩
    show bAtom ws _ _ _ _
    unfold bAtom
    rw [if_neg (by omega)]
    refine ⟨hw, ?_, .inl ?_⟩
    · rw [show s5.pos - 1 = s2.pos by omega]; exact (kw hW (k := 30) rfl rfl).1 y2
    · rw [← d1', show s5.pos - 1 = s2.pos by omega]; exact y7

theorem q_patBrackets (hW : WsOk names L ws) (IH : IhP L ws n) (h : Pre L (n + 1) 18 s) : Q L ws 18 s (rdr L (n + 1) 18 s) := by
  have LV := lv
  have SV := slv
  have PV := plv
  obtain ⟨p0, p1, p2, hk⟩ := h
  replace hk : kd L s.pos = 32 := hk
  have hlt : s.pos < L.length := kd_in (by omega)
  show Q L ws 18 s (tPatBrackets L (rdr L n) s)
  unfold tPatBrackets
  obtain ⟨s1, e1, z1, a1, b1, c1, d1⟩ := wq L 32 (by decide) s p0
  have d1' := d1 hk
  have hw := (kw hW (k := 29) rfl rfl).1 hk
  rw [e1]
  obtain ⟨s2, x2, e2, q1, q2, q3, -, q4⟩ := IH.go 16 s1 (by decide) b1 (by omega) (by omega) trivial
  rw [e2]
  simp only [Option.bind_some]
  rcases take_q L 34 (by decide) s2 with ⟨k4, l4, e4⟩ | ⟨k4, e4⟩
  · rw [e4]
    simp only [if_true]
    obtain ⟨s3, x3, e3, r1, r2, r3, -, r4⟩ := IH.go 16 { s2 with pos := s2.pos + 1 } (by decide) l4 (by simp only [sz_at]; omega) (by simp only []; omega) trivial
    rw [e3]
    simp only [Option.bind_some, sz_at] at r1 r3 ⊢
    rw [addP_q _ _ (by omega)]
    simp only [Option.bind_some]
    obtain ⟨s5, e5, z5, a5, b5, c5, -⟩ := wq L 33 (by decide) { s3 with pats := s3.pats ++ [⟨7, 0, 0, x2, x3⟩] } r2
    rw [e5]
    rw [sz_p] at z5
    simp only [] at a5 c5
    refine ⟨s5, _, rfl, by omega, b5, by omega, nb (by decide), fun hb => ?_⟩
    obtain ⟨y1, y2, y3⟩ := c5 hb
    obtain ⟨y4, t3, y5⟩ := r4 y1
    obtain ⟨y6, t2, y7⟩ := q4 y4
    have g1 : s2.pos + 1 < s3.pos := Dv_lt y5
    have g2 := Dv_lt y7
    refine ⟨(c1 y6).1, nd [112, 97, 105, 114] 0 [] [] [t2, t3] [], Dv_out ⟨by omega, ?_⟩⟩
    show bSimple ws _ _ _ _
    unfold bSimple
    rw [if_pos (by omega)]
    refine ⟨hw, ?_, .inr ⟨s2.pos, t2, t3, by omega, by omega, (kw hW (k := 31) rfl rfl).1 k4, ?_, ?_, rfl⟩⟩
    · rw [show s5.pos - 1 = s3.pos by omega]; exact (kw hW (k := 30) rfl rfl).1 y2
    · rw [← d1']; exact y7
    · rw [show s5.pos - 1 = s3.pos by omega]; exact y5
  · rw [e4]
    simp only [Bool.false_eq_true, if_false]
    obtain ⟨s5, e5, z5, a5, b5, c5, -⟩ := wq L 33 (by decide) s2 q2
    rw [e5]
    refine ⟨s5, _, rfl, by omega, b5, by omega, nb (by decide), fun hb => ?_⟩
    obtain ⟨y1, y2, y3⟩ := c5 hb
    obtain ⟨y6, t2, y7⟩ := q4 y1
    have g2 := Dv_lt y7
    refine ⟨(c1 y6).1, t2, Dv_out ⟨by omega, ?_⟩⟩
    show bSimple ws _ _ _ _
    unfold bSimple
    rw [if_pos (by omega)]
    refine ⟨hw, ?_, .inl ?_⟩
    · rw [show s5.pos - 1 = s2.pos by omega]; exact (kw hW (k := 30) rfl rfl).1 y2
    · rw [← d1', show s5.pos - 1 = s2.pos by omega]; exact y7

theorem nm_not_ (hW : WsOk names L ws) {i : Nat} (h : kd L i = 2) : (wAt ws i).isName = true ∧ tx ws i ∉ kwList := by
  have hi : i < L.length := kd_in (by omega)
  unfold kd at h
  rcases hW.at hi with ⟨h1, h2, h3, _⟩ | ⟨h1, h3, h4⟩ | ⟨h1, m, h3, h4⟩
  · exact ⟨h1, h2.2⟩
  · rw [h4] at h; simp at h
  · rw [h4] at h; simp at h; omega

theorem simple_of (hW : WsOk names L ws) {i : Nat} (h : kd L i = 2 ∨ kd L i = 1 ∨ kd L i = 20 ∨ kd L i = 21 ∨ kd L i = 25) : tx ws i ≠ [95] ∧ ¬ ((wAt ws i).isName = false ∧ tx ws i = [114, 101, 97, 100]) := by
  rcases h with h | h | h | h | h
  · obtain ⟨h1, h2⟩ := nm_not_ hW h
    exact ⟨fun h3 => h2 (by rw [h3]; decide), fun h3 => by rw [h1] at h3; cases h3.1⟩
  · obtain ⟨h3, h4⟩ := kd_num hW h
    rw [h4]; exact ⟨by decide, fun h => nomatch h.2⟩
  · obtain ⟨h3, h4, -⟩ := wd_tx ((kw hW (k := 17) rfl rfl).1 h)
    rw [h4]; exact ⟨by decide, fun h => absurd h.2 (by decide)⟩
  · obtain ⟨h3, h4, -⟩ := wd_tx ((kw hW (k := 18) rfl rfl).1 h)
    rw [h4]; exact ⟨by decide, fun h => absurd h.2 (by decide)⟩
  · obtain ⟨h3, h4, -⟩ := wd_tx ((kw hW (k := 22) rfl rfl).1 h)
    rw [h4]; exact ⟨by decide, fun h => absurd h.2 (by decide)⟩

theorem dv_simple (hW : WsOk names L ws) {i : Nat} (h : kd L i = 2 ∨ kd L i = 1 ∨ kd L i = 20 ∨ kd L i = 21 ∨ kd L i = 25) : ∃ t, Dv ws 8 i (i + 1) t := by
  obtain ⟨t, ht⟩ := one_of hW (i := i) (by omega)
  refine ⟨t, Dv_out ⟨Nat.lt_succ_self _, ?_⟩⟩
  show bSimple ws _ _ _ _
  unfold bSimple
  obtain ⟨h1, h2⟩ := simple_of hW h
  rw [if_neg (by omega), if_neg h1]
  exact ⟨ht, h2⟩

theorem q_simple (hW : WsOk names L ws) (IH : IhP L ws n) (h : Pre L (n + 1) 17 s) : Q L ws 17 s (rdr L (n + 1) 17 s) := by
  have LV := lv
  have SV := slv
  have PV := plv
  obtain ⟨p0, p1, p2, hk⟩ := h
  show Q L ws 17 s (tSimple L (rdr L n) s)
  unfold tSimple
  have hk1 : (rPeek L s).1 = kd L s.pos := rfl
  rw [hk1]
  by_cases h32 : kd L s.pos = 32
  · rw [if_pos h32]
    obtain ⟨s1, x1, e1, q1, q2, q3, -, q4⟩ := IH.go 18 s (by decide) p0 (by omega) (by omega) h32
    exact ⟨s1, x1, e1, q1, q2, by omega, nb (by decide), q4⟩
  rw [if_neg h32]
  by_cases h2 : kd L s.pos = 2
  · rw [if_pos h2]
    have hlt : s.pos < L.length := kd_in (by omega)
    obtain ⟨s2, v2, e2, z2, a2, b2, c2, d2⟩ := bq L s p0 (by omega)
    have d2' := d2 h2
    rw [e2]
    simp only [Option.bind_some]
    rw [addP_q _ _ (by omega)]
    refine ⟨_, _, rfl, a2, b2, ?_, nb (by decide), fun hb => ⟨(c2 hb).1, ?_⟩⟩
    · rw [sz_p]; show sz s2 + 1 + 3 * s.pos ≤ sz s + 3 * s2.pos + sl 17; omega
    · show ∃ t, Dv ws 8 s.pos s2.pos t
      rw [d2']
      exact dv_simple hW (.inl h2)
  rw [if_neg h2]
  by_cases h22 : kd L s.pos = 22
  · rw [if_pos h22]
    have hlt : s.pos < L.length := kd_in (by omega)
    rw [step_q L s hlt, addP_q _ _ (by show sz s ≤ _; omega)]
    refine ⟨_, _, rfl, Nat.le_succ _, hlt, ?_, nb (by decide), fun hb => ⟨hb, ?_⟩⟩
    · rw [sz_p]; show sz s + 1 + 3 * s.pos ≤ sz s + 3 * (s.pos + 1) + sl 17; omega
    · refine ⟨nd [97, 110, 121] 0 [] [] [] [], Dv_out ⟨Nat.lt_succ_self _, ?_⟩⟩
      show bSimple ws _ _ _ _
      unfold bSimple
      obtain ⟨h3, h4, -⟩ := wd_tx ((kw hW (k := 19) rfl rfl).1 h22)
      rw [if_neg (by simp), if_pos h4]
  rw [if_neg h22]
  by_cases hz : constK (kd L s.pos) = 0
  · rw [if_pos hz]
    have hst : rStep L (rFail L s) = { s with bad := true, pos := L.length } := by
      unfold rStep rFail
      simp
    rw [hst, addP_q _ _ (by show sz s ≤ _; omega)]
    refine ⟨_, _, rfl, p0, Nat.le_refl _, ?_, nb (by decide), fun hb => nomatch hb⟩
    rw [sz_p]
    show sz s + 1 + 3 * s.pos ≤ sz s + 3 * L.length + sl 17
    omega
  · rw [if_neg hz]
    have hlt : s.pos < L.length := kd_in (by have := constK_ne hz; omega)
    rw [step_q L s hlt, addP_q _ _ (by show sz s ≤ _; omega)]
    refine ⟨_, _, rfl, Nat.le_succ _, hlt, ?_, nb (by decide), fun hb => ⟨hb, dv_simple hW (.inr (constK_ne hz))⟩⟩
    rw [sz_p]
    show sz s + 1 + 3 * s.pos ≤ sz s + 3 * (s.pos + 1) + sl 17
    omega

theorem q_funs (hW : WsOk names L ws) (IH : IhP L ws n) : ∀ (m : Nat) (s : RS) (l : List (Int × Int × Int)), s.pos ≤ L.length → sz s + 3 * (L.length - s.pos) + 14 ≤ 100000 → L.length - s.pos + 1 ≤ m → 12 * (L.length - s.pos) + 10 ≤ n → l.length + (L.length - s.pos) ≤ 100000 →
    ∃ s' l', tFuns L (rdr L n) m s l = some (s', l') ∧ s.pos ≤ s'.pos ∧ s'.pos ≤ L.length ∧ sz s' + 3 * s.pos ≤ sz s + 3 * s'.pos + 3 ∧ (s'.bad = false → s.bad = false ∧ ∃ ds, Dv ws 10 s.pos s'.pos (nd [100, 101, 102, 115] 0 [] [] ds []))
  | 0, _, _, _, _, h, _, _ => by omega
  | m + 1, s, l, h1, h2, h3, h4, h5 => by
    have LV := lv
    have SV := slv
    have PV := plv
    rw [tFuns]
    unfold tFun
    obtain ⟨s1, v1, e1, z1, a1, b1, c1, -⟩ := bq L s h1 (by omega)
    rw [e1]
    simp only [Option.bind_some]
    obtain ⟨s2, v2, e2, z2, a2, b2, c2, -⟩ := bq L s1 b1 (by omega)
    rw [e2]
    simp only [Option.bind_some]
    obtain ⟨s3, e3, z3, a3, b3, c3, -⟩ := wq L 26 (by decide) s2 b2
    rw [e3]
    obtain ⟨s4, x4, e4, q1, q2, q3, -, q4⟩ := IH.go 0 s3 (by decide) b3 (by omega) (by omega) trivial
    rw [e4]
    simp only [Option.bind_some]
    rw [if_pos (by omega)]
    rcases take_q L 5 (by decide) s4 with ⟨k5, l5, e5⟩ | ⟨k5, e5⟩
    · rw [e5]
      simp only [if_true]
      obtain ⟨s6, l6, e6, u1, u2, u3, u4⟩ := q_funs hW IH m { s4 with pos := s4.pos + 1 } (l ++ [(v1, v2, x4)]) l5 (by simp only [sz_at]; omega) (by simp only []; omega) (by simp only []; omega) (by simp; omega)
      simp only [sz_at] at u1 u3
      refine ⟨s6, l6, e6, by omega, u2, by omega, fun hb => ?_⟩
      obtain ⟨y1, ds, y2⟩ := u4 hb
      obtain ⟨y3, t4, y4⟩ := q4 y1
      obtain ⟨y5, y6, y7⟩ := c3 y3
      obtain ⟨y8, y9, y10⟩ := c2 y5
      obtain ⟨y11, y12, y13⟩ := c1 y8
      have g1 := Dv_lt y4
      have g2 : s4.pos + 1 < s6.pos := Dv_lt y2
      refine ⟨y11, _, Dv_out ⟨by omega, (kd_nm hW _).1 y12, ?_, ?_, s4.pos, t4, by omega, by omega, ?_, .inr ⟨by omega, (kw hW (k := 2) rfl rfl).1 k5, ds, y2, rfl⟩⟩⟩
      · rw [← y13]; exact (kd_nm hW _).1 y9
      · rw [show s.pos + 2 = s2.pos by omega]; exact (kw hW (k := 23) rfl rfl).1 y6
      · rw [show s.pos + 3 = s3.pos by omega]; exact y4
    · rw [e5]
      simp only [Bool.false_eq_true, if_false]
      refine ⟨_, _, rfl, by omega, q2, by omega, fun hb => ?_⟩
      obtain ⟨y3, t4, y4⟩ := q4 hb
      obtain ⟨y5, y6, y7⟩ := c3 y3
      obtain ⟨y8, y9, y10⟩ := c2 y5
      obtain ⟨y11, y12, y13⟩ := c1 y8
      have g1 := Dv_lt y4
      refine ⟨y11, _, Dv_out ⟨by omega, (kd_nm hW _).1 y12, ?_, ?_, s4.pos, t4, by omega, by omega, ?_, .inl ⟨rfl, rfl⟩⟩⟩
      · rw [← y13]; exact (kd_nm hW _).1 y9
      · rw [show s.pos + 2 = s2.pos by omega]; exact (kw hW (k := 23) rfl rfl).1 y6
      · rw [show s.pos + 3 = s3.pos by omega]; exact y4

theorem q_letRec (hW : WsOk names L ws) (IH : IhP L ws n) (h : Pre L (n + 1) 7 s) : Q L ws 7 s (rdr L (n + 1) 7 s) := by
  have LV := lv
  have SV := slv
  have PV := plv
  obtain ⟨p0, p1, p2, hk⟩ := h
  show Q L ws 7 s (tLetRec L (rdr L n) n s)
  unfold tLetRec
  obtain ⟨s1, l1, e1, q1, q2, q3, q4⟩ := q_funs hW IH n s [] p0 (by omega) (by omega) (by omega) (by simp; omega)
  rw [e1]
  simp only [Option.bind_some]
  obtain ⟨s2, e2, z2, a2, b2, c2, -⟩ := wq L 6 (by decide) s1 q2
  rw [e2]
  obtain ⟨s4, x4, e4, r1, r2, r3, -, r4⟩ := IH.go 0 s2 (by decide) b2 (by omega) (by omega) trivial
  rw [e4]
  simp only [Option.bind_some]
  rw [add_q _ _ (by omega)]
  refine ⟨_, _, rfl, ?_, r2, ?_, nb (by decide), fun hb => ?_⟩
  · show s.pos ≤ s4.pos; omega
  · rw [sz_e]; show _ ≤ sz s + 3 * s4.pos + sl 7; omega
  · obtain ⟨y1, t4, y2⟩ := r4 hb
    obtain ⟨y3, y4, y5⟩ := c2 y1
    obtain ⟨y6, ds, y7⟩ := q4 y3
    have g1 := Dv_lt y2
    have g2 := Dv_lt y7
    refine ⟨y6, s1.pos, ds, t4, g2, ?_, (kw hW (k := 3) rfl rfl).1 y4, y7, ?_⟩
    · show s1.pos < s4.pos; omega
    · rw [← y5]; exact y2

theorem q_arms (hW : WsOk names L ws) (IH : IhP L ws n) : ∀ (m : Nat) (s : RS) (l : List (Int × Int)), s.pos ≤ L.length → sz s + 3 * (L.length - s.pos) + 11 ≤ 100000 → L.length - s.pos + 1 ≤ m → 12 * (L.length - s.pos) + 10 ≤ n → l.length + (L.length - s.pos) ≤ 100000 →
    ∃ s' l', tArms L (rdr L n) m s l = some (s', l') ∧ s.pos ≤ s'.pos ∧ s'.pos ≤ L.length ∧ sz s' + 3 * s.pos ≤ sz s + 3 * s'.pos + 2 ∧ (s'.bad = false → s.bad = false ∧ ∃ bs qs, Dv ws 9 s.pos s'.pos (nd [99, 108, 97, 117, 115, 101, 115] 0 [] [] bs qs))
  | 0, _, _, _, _, h, _, _ => by omega
  | m + 1, s, l, h1, h2, h3, h4, h5 => by
    have LV := lv
    have SV := slv
    have PV := plv
    rw [tArms]
    unfold tArm
    obtain ⟨s1, x1, e1, a1, b1, z1, -, c1⟩ := IH.go 16 s (by decide) h1 (by omega) (by omega) trivial
    rw [e1]
    simp only [Option.bind_some]
    obtain ⟨s3, e3, z3, a3, b3, c3, -⟩ := wq L 23 (by decide) s1 b1
    rw [e3]
    obtain ⟨s4, x4, e4, q1, q2, q3, -, q4⟩ := IH.go 0 s3 (by decide) b3 (by omega) (by omega) trivial
    rw [e4]
    simp only [Option.bind_some]
    rw [if_pos (by omega)]
    rcases take_q L 35 (by decide) s4 with ⟨k5, l5, e5⟩ | ⟨k5, e5⟩
    · rw [e5]
      simp only [if_true]
      obtain ⟨s6, l6, e6, u1, u2, u3, u4⟩ := q_arms hW IH m { s4 with pos := s4.pos + 1 } (l ++ [(x1, x4)]) l5 (by simp only [sz_at]; omega) (by simp only []; omega) (by simp only []; omega) (by simp; omega)
      simp only [sz_at] at u1 u3
      refine ⟨s6, l6, e6, by omega, u2, by omega, fun hb => ?_⟩
      obtain ⟨y1, bs, qs, y2⟩ := u4 hb
      obtain ⟨y3, t4, y4⟩ := q4 y1
      obtain ⟨y5, y6, y7⟩ := c3 y3
      obtain ⟨y8, t1, y9⟩ := c1 y5
      have g0 := Dv_lt y9
      have g1 := Dv_lt y4
      have g2 : s4.pos + 1 < s6.pos := Dv_lt y2
      refine ⟨y8, _, _, Dv_out ⟨by omega, s1.pos, t1, g0, by omega, (kw hW (k := 20) rfl rfl).1 y6, y9, s4.pos, t4, by omega, by omega, ?_, .inr ⟨by omega, (kw hW (k := 32) rfl rfl).1 k5, bs, qs, y2, rfl⟩⟩⟩
      rw [← y7]; exact y4
    · rw [e5]
      simp only [Bool.false_eq_true, if_false]
      refine ⟨_, _, rfl, by omega, q2, by omega, fun hb => ?_⟩
      obtain ⟨y3, t4, y4⟩ := q4 hb
      obtain ⟨y5, y6, y7⟩ := c3 y3
      obtain ⟨y8, t1, y9⟩ := c1 y5
      have g0 := Dv_lt y9
      have g1 := Dv_lt y4
      refine ⟨y8, _, _, Dv_out ⟨by omega, s1.pos, t1, g0, by omega, (kw hW (k := 20) rfl rfl).1 y6, y9, s4.pos, t4, by omega, by omega, ?_, .inl ⟨rfl, rfl⟩⟩⟩
      rw [← y7]; exact y4

theorem q_match (hW : WsOk names L ws) (IH : IhP L ws n) (h : Pre L (n + 1) 4 s) : Q L ws 4 s (rdr L (n + 1) 4 s) := by
  have LV := lv
  have SV := slv
  have PV := plv
  obtain ⟨p0, p1, p2, hk⟩ := h
  replace hk : kd L s.pos = 11 := hk
  have hlt : s.pos < L.length := kd_in (by omega)
  show Q L ws 4 s (tMatch L (rdr L n) n s)
  unfold tMatch
  obtain ⟨s1, e1, z1, a1, b1, c1, d1⟩ := wq L 11 (by decide) s p0
  have d1' := d1 hk
  rw [e1]
  obtain ⟨s2, x2, e2, q1, q2, q3, -, q4⟩ := IH.go 0 s1 (by decide) b1 (by omega) (by omega) trivial
  rw [e2]
  simp only [Option.bind_some]
  obtain ⟨s3, e3, z3, a3, b3, c3, -⟩ := wq L 12 (by decide) s2 q2
  rw [e3]
  obtain ⟨s4, l4, e4, r1, r2, r3, r4⟩ := q_arms hW IH n s3 [] b3 (by omega) (by omega) (by omega) (by simp; omega)
  rw [e4]
  simp only [Option.bind_some]
  obtain ⟨s7, e7, z7, a7, b7, c7, -⟩ := wq L 13 (by decide) s4 r2
  rw [e7, add_q _ _ (by omega)]
  refine ⟨_, _, rfl, ?_, b7, ?_, nb (by decide), fun hb => ?_⟩
  · show s.pos ≤ s7.pos; omega
  · rw [sz_e]; show _ ≤ sz s + 3 * s7.pos + sl 4; omega
  · obtain ⟨x1, x2, x3⟩ := c7 hb
    obtain ⟨y1, bs, qs, y2⟩ := r4 x1
    obtain ⟨y8, y9, y10⟩ := c3 y1
    obtain ⟨y11, t2, y12⟩ := q4 y8
    have y14 := c1 y11
    have g1 := Dv_lt y2
    have g2 := Dv_lt y12
    refine ⟨y14.1, _, dv_match ?_ ((kw hW (k := 8) rfl rfl).1 hk) ⟨?_, s2.pos, t2, bs, qs, ?_, ?_, (kw hW (k := 9) rfl rfl).1 y9, ?_, ?_, rfl⟩⟩
    · show s.pos < s7.pos; omega
    · show wd ws (s7.pos - 1) _ = true
      rw [show s7.pos - 1 = s4.pos by omega]; exact (kw hW (k := 10) rfl rfl).1 x2
    · omega
    · show s2.pos < s7.pos; omega
    · rw [← d1']; exact y12
    · show Dv ws 9 (s2.pos + 1) (s7.pos - 1) _
      rw [← y10, show s7.pos - 1 = s4.pos by omega]; exact y2

/-- The reader ends, and what it finds is so. -/
theorem q_all (hW : WsOk names L ws) : ∀ n, IhP L ws n := by
  intro n
  induction n with
  | zero => intro tag s _ h; have := h.2.2.1; omega
  | succ n ih =>
    intro tag s ht h
    match tag, ht, h with
    | 0, _, h => exact q_exp hW ih h
    | 1, _, h => exact q_let hW ih h
    | 2, _, h => exact q_fn hW ih h
    | 3, _, h => exact q_if hW ih h
    | 4, _, h => exact q_match hW ih h
    | 5, _, h => exact q_try hW ih h
    | 6, _, h => exact q_cmp hW ih h
    | 7, _, h => exact q_letRec hW ih h
    | 8, _, h => exact q_cons hW ih h
    | 9, _, h => exact q_sum hW ih h
    | 10, _, h => exact q_prod hW ih h
    | 11, _, h => exact q_app hW ih h
    | 12, _, h => exact q_throw hW ih h
    | 13, _, h => exact q_call hW ih h
    | 14, _, h => exact q_atom hW ih h
    | 15, _, h => exact q_brackets hW ih h
    | 16, _, h => exact q_pat hW ih h
    | 17, _, h => exact q_simple hW ih h
    | 18, _, h => exact q_patBrackets hW ih h
    | k + 19, ht, _ => omega
end
end Go.Proofs.YtnbhnjokpcdnnaaDoor

/- What the reader lays for a tree. -/
namespace Go.Proofs.YtnbhnjokpcdnnaaDoor

/-- The lists have only grown. -/
def Ext (s s' : RS) : Prop := (∃ l, s'.exps = s.exps ++ l) ∧ (∃ l, s'.pats = s.pats ++ l) ∧ ∃ l, s'.bnds = s.bnds ++ l

theorem Ext.refl (s : RS) : Ext s s := ⟨⟨[], by simp⟩, ⟨[], by simp⟩, ⟨[], by simp⟩⟩
theorem Ext.trans {a b c : RS} (h1 : Ext a b) (h2 : Ext b c) : Ext a c := by
  obtain ⟨⟨l1, e1⟩, ⟨l2, e2⟩, ⟨l3, e3⟩⟩ := h1
  obtain ⟨⟨m1, f1⟩, ⟨m2, f2⟩, ⟨m3, f3⟩⟩ := h2
  exact ⟨⟨l1 ++ m1, by rw [f1, e1, List.append_assoc]⟩, ⟨l2 ++ m2, by rw [f2, e2, List.append_assoc]⟩, ⟨l3 ++ m3, by rw [f3, e3, List.append_assoc]⟩⟩

section
variable (names : List (List UInt8)) (s : RS)

/-- The binder v is of that name. -/
def Bn (v : Int) (x : List UInt8) : Prop := 0 ≤ v ∧ ∃ k : Nat, s.bnds[v.toNat]? = some (k : Int) ∧ names[k]? = some x

def Tfs (R : Code → Int → Prop) : List Code → List (Int × Int × Int) → Prop
  | [], [] => True
  | d :: ds, f :: fs => (∃ own x b, d = nd [100, 101, 102] 0 x own [b] [] ∧ Bn names s f.1 own ∧ Bn names s f.2.1 x ∧ R b f.2.2) ∧ Tfs R ds fs
  | _, _ => False

def Tas (R P : Code → Int → Prop) : List Code → List Code → List (Int × Int) → Prop
  | [], [], [] => True
  | b :: bs, q :: qs, a :: as => (P q a.1 ∧ R b a.2) ∧ Tas R P bs qs as
  | _, _, _ => False

/-- The pattern q lies at x. -/
def Tp : Nat → Code → Int → Prop
  | 0, _, _ => False
  | n + 1, q, x => ∃ p, patAt s x = some p ∧
    ((p.kind = 4 ∧ ∃ y, q = nd [118, 97, 114] 0 y [] [] [] ∧ Bn names s p.binder y) ∨
     ((p.kind = 7 ∨ p.kind = 8) ∧ ∃ k a b, (k = [112, 97, 105, 114] ∨ k = [99, 111, 110, 115]) ∧ q = nd k 0 [] [] [a, b] [] ∧ Tp n a p.first ∧ Tp n b p.second) ∨
     ((p.kind = 6 ∨ p.kind = 1 ∨ p.kind = 2 ∨ p.kind = 3 ∨ p.kind = 5) ∧ ∃ k m, (k = [97, 110, 121] ∨ k = [110, 117, 109] ∨ k = [98, 111, 111, 108] ∨ k = [110, 105, 108]) ∧ q = nd k m [] [] [] []))

def twoN (k : List UInt8) : Bool := k == [112, 97, 105, 114] || k == [99, 111, 110, 115] || k == [61] || k == [60] || k == [43] || k == [45] || k == [42] || k == [47] || k == [116, 104, 114, 111, 119] || k == [99, 97, 108, 108]

/-- The expression t lies at x. -/
def Te : Nat → Code → Int → Prop
  | 0, _, _ => False
  | n + 1, t, x => ∃ e, expAt s x = some e ∧
    (((e.kind = 1 ∨ e.kind = 2 ∨ e.kind = 3 ∨ e.kind = 5 ∨ e.kind = 9) ∧ ∃ k m, (k = [110, 117, 109] ∨ k = [98, 111, 111, 108] ∨ k = [110, 105, 108] ∨ k = [114, 101, 97, 100]) ∧ t = nd k m [] [] [] []) ∨
     (e.kind = 4 ∧ ∃ y, ∃ k : Nat, e.num = k ∧ names[k]? = some y ∧ t = nd [118, 97, 114] 0 y [] [] []) ∨
     ((e.kind = 22 ∨ e.kind = 23 ∨ e.kind = 24) ∧ ∃ k a, (k = [114, 97, 105, 115, 101] ∨ k = [99, 97, 108, 108, 99, 99] ∨ k = [112, 114, 105, 110, 116]) ∧ t = nd k 0 [] [] [a] [] ∧ Te n a e.first) ∨
     (two e.kind = true ∧ ∃ k a b, twoN k = true ∧ t = nd k 0 [] [] [a, b] [] ∧ Te n a e.first ∧ Te n b e.second) ∨
     (e.kind = 13 ∧ ∃ a b c, t = nd [105, 102] 0 [] [] [a, b, c] [] ∧ Te n a e.first ∧ Te n b e.second ∧ Te n c e.third) ∨
     (e.kind = 12 ∧ ∃ y b, t = nd [102, 110] 0 y [] [b] [] ∧ Bn names s e.binder y ∧ Te n b e.first) ∨
     ((e.kind = 10 ∨ e.kind = 15) ∧ ∃ k y a b, (k = [108, 101, 116] ∨ k = [116, 114, 121]) ∧ t = nd k 0 y [] [a, b] [] ∧ Bn names s e.binder y ∧ Te n a e.first ∧ Te n b e.second) ∨
     (e.kind = 11 ∧ ∃ ds b, t = nd [114, 101, 99] 0 [] [] (ds ++ [b]) [] ∧ (ds ≠ [] ∧ Tfs names s (Te n) ds e.funs) ∧ Te n b e.first) ∨
     (e.kind = 14 ∧ ∃ a bs qs, t = nd [109, 97, 116, 99, 104] 0 [] [] (a :: bs) qs ∧ Te n a e.first ∧ Tas (Te n) (Tp names s n) bs qs e.arms))
end

section
variable {names : List (List UInt8)} {s s' : RS}

theorem expAt_ext (h : Ext s s') {x : Int} {e : EX} (he : expAt s x = some e) : expAt s' x = some e := by
  unfold expAt at he ⊢
  split at he
  · rename_i h0
    rw [if_pos h0]
    obtain ⟨⟨l, h1⟩, -, -⟩ := h
    rw [h1, List.getElem?_append_left (List.getElem?_eq_some_iff.1 he).1]
    exact he
  · cases he

theorem patAt_ext (h : Ext s s') {x : Int} {e : PT} (he : patAt s x = some e) : patAt s' x = some e := by
  unfold patAt at he ⊢
  split at he
  · rename_i h0
    rw [if_pos h0]
    obtain ⟨-, ⟨l, h1⟩, -⟩ := h
    rw [h1, List.getElem?_append_left (List.getElem?_eq_some_iff.1 he).1]
    exact he
  · cases he

theorem Bn.ext (h : Ext s s') {v : Int} {x : List UInt8} (hb : Bn names s v x) : Bn names s' v x := by
  obtain ⟨h0, k, h1, h2⟩ := hb
  obtain ⟨-, -, ⟨l, h3⟩⟩ := h
  exact ⟨h0, k, by rw [h3, List.getElem?_append_left (List.getElem?_eq_some_iff.1 h1).1]; exact h1, h2⟩

theorem Tfs.mono (h : Ext s s') {R R' : Code → Int → Prop} (hR : ∀ t x, R t x → R' t x) : ∀ {ds : List Code} {fs : List (Int × Int × Int)}, Tfs names s R ds fs → Tfs names s' R' ds fs
  | [], [], _ => trivial
  | _ :: _, _ :: _, ⟨⟨own, x, b, h1, h2, h3, h4⟩, h5⟩ => ⟨⟨own, x, b, h1, h2.ext h, h3.ext h, hR _ _ h4⟩, Tfs.mono h hR h5⟩
  | [], _ :: _, h => h.elim
  | _ :: _, [], h => h.elim

theorem Tas.mono {R R' P P' : Code → Int → Prop} (hR : ∀ t x, R t x → R' t x) (hP : ∀ t x, P t x → P' t x) : ∀ {bs qs : List Code} {as : List (Int × Int)}, Tas R P bs qs as → Tas R' P' bs qs as
  | [], [], [], _ => trivial
  | _ :: _, _ :: _, _ :: _, ⟨⟨h1, h2⟩, h3⟩ => ⟨⟨hP _ _ h1, hR _ _ h2⟩, Tas.mono hR hP h3⟩
  | [], [], _ :: _, h => h.elim
  | [], _ :: _, _, h => h.elim
  | _ :: _, [], _, h => h.elim
  | _ :: _, _ :: _, [], h => h.elim

theorem Tp.up (h : Ext s s') : ∀ (n m : Nat), n ≤ m → ∀ q x, Tp names s n q x → Tp names s' m q x
  | 0, _, _, _, _, h => h.elim
  | n + 1, 0, h0, _, _, _ => by omega
  | n + 1, m + 1, h0, q, x, ⟨p, h1, h2⟩ => by
    refine ⟨p, patAt_ext h h1, ?_⟩
    rcases h2 with ⟨h2, y, h3, h4⟩ | ⟨h2, k, a, b, h3, h4, h5, h6⟩ | h2
    · exact .inl ⟨h2, y, h3, h4.ext h⟩
    · exact .inr (.inl ⟨h2, k, a, b, h3, h4, Tp.up h n m (by omega) _ _ h5, Tp.up h n m (by omega) _ _ h6⟩)
    · exact .inr (.inr h2)

theorem Te.up (h : Ext s s') : ∀ (n m : Nat), n ≤ m → ∀ t x, Te names s n t x → Te names s' m t x
  | 0, _, _, _, _, h => h.elim
  | n + 1, 0, h0, _, _, _ => by omega
  | n + 1, m + 1, h0, t, x, ⟨e, h1, h2⟩ => by
    have ih := fun t x => Te.up h n m (by omega) t x
    refine ⟨e, expAt_ext h h1, ?_⟩
    rcases h2 with h2 | h2 | ⟨h2, k, a, h3, h4, h5⟩ | ⟨h2, k, a, b, h3, h4, h5, h6⟩ | ⟨h2, a, b, c, h3, h4, h5, h6⟩ | ⟨h2, y, b, h3, h4, h5⟩ | ⟨h2, k, y, a, b, h3, h4, h5, h6, h7⟩ | ⟨h2, ds, b, h3, h4, h5⟩ | ⟨h2, a, bs, qs, h3, h4, h5⟩
    · exact .inl h2
    · exact .inr (.inl h2)
    · exact .inr (.inr (.inl ⟨h2, k, a, h3, h4, ih _ _ h5⟩))
    · exact .inr (.inr (.inr (.inl ⟨h2, k, a, b, h3, h4, ih _ _ h5, ih _ _ h6⟩)))
    · exact .inr (.inr (.inr (.inr (.inl ⟨h2, a, b, c, h3, ih _ _ h4, ih _ _ h5, ih _ _ h6⟩))))
    · exact .inr (.inr (.inr (.inr (.inr (.inl ⟨h2, y, b, h3, h4.ext h, ih _ _ h5⟩)))))
    · exact .inr (.inr (.inr (.inr (.inr (.inr (.inl ⟨h2, k, y, a, b, h3, h4, h5.ext h, ih _ _ h6, ih _ _ h7⟩))))))
    · exact .inr (.inr (.inr (.inr (.inr (.inr (.inr (.inl ⟨h2, ds, b, h3, ⟨h4.1, h4.2.mono h ih⟩, ih _ _ h5⟩)))))))
    · exact .inr (.inr (.inr (.inr (.inr (.inr (.inr (.inr ⟨h2, a, bs, qs, h3, ih _ _ h4, h5.mono ih (fun _ _ => Tp.up h n m (by omega) _ _)⟩)))))))
end

section
variable (L : List (Int × Int)) (ws : List RW) (names : List (List UInt8))

/-- The word behind does not go on with that kind. -/
def Fo (k j : Nat) : Prop :=
  match k with
  | 0 => begA (kd L j) = false ∧ mulK (kd L j) = 0 ∧ addK (kd L j) = 0 ∧ kd L j ≠ 24 ∧ cmpK (kd L j) = 0
  | 1 => begA (kd L j) = false ∧ mulK (kd L j) = 0 ∧ addK (kd L j) = 0 ∧ kd L j ≠ 24 ∧ cmpK (kd L j) = 0
  | 2 => begA (kd L j) = false ∧ mulK (kd L j) = 0 ∧ addK (kd L j) = 0 ∧ kd L j ≠ 24
  | 3 => begA (kd L j) = false ∧ mulK (kd L j) = 0 ∧ addK (kd L j) = 0
  | 4 => begA (kd L j) = false ∧ mulK (kd L j) = 0
  | 5 => begA (kd L j) = false
  | 7 => kd L j ≠ 24
  | _ => True

def tagOf (k : Nat) : Nat :=
  match k with
  | 0 => 0
  | 1 => 6
  | 2 => 8
  | 3 => 9
  | 4 => 10
  | 5 => 11
  | 6 => 14
  | 7 => 16
  | _ => 17

/-- What is derived is read so: expressions, patterns. -/
def CmE (n : Nat) : Prop := ∀ k i j t, k ≤ 6 → der ws n k i j t → j ≤ L.length → Fo L k j → ∀ N s r, rdr L N (tagOf k) s = some r → s.pos = i → s.bad = false → r.1.pos = j ∧ r.1.bad = false ∧ Ext s r.1 ∧ Te names r.1 n t r.2
def CmP (n : Nat) : Prop := ∀ k i j t, k = 7 ∨ k = 8 → der ws n k i j t → j ≤ L.length → Fo L k j → ∀ N s r, rdr L N (tagOf k) s = some r → s.pos = i → s.bad = false → r.1.pos = j ∧ r.1.bad = false ∧ Ext s r.1 ∧ Tp names r.1 n t r.2
end

section
variable {L : List (Int × Int)} {s : RS}

theorem want_ok {k : Int} (hk : k ≠ 0) (h : kd L s.pos = k) : rWant L k s = { s with pos := s.pos + 1 } := by
  have hlt : s.pos < L.length := kd_in (by omega)
  unfold rWant rTake
  rw [if_pos (show (rPeek L s).1 = k from h)]
  simp [rStep, hlt]
theorem take_ok {k : Int} (hk : k ≠ 0) (h : kd L s.pos = k) : rTake L k s = ({ s with pos := s.pos + 1 }, true) := by
  have hlt : s.pos < L.length := kd_in (by omega)
  unfold rTake
  rw [if_pos (show (rPeek L s).1 = k from h)]
  simp [rStep, hlt]
theorem take_no {k : Int} (h : kd L s.pos ≠ k) : rTake L k s = (s, false) := by
  unfold rTake
  rw [if_neg (show ¬ (rPeek L s).1 = k from h)]

theorem bnd_ok {r : RS × Int} (h : kd L s.pos = 2) (hr : bnd L s = some r) : r = ({ s with pos := s.pos + 1, bnds := s.bnds ++ [(L.getD s.pos (0, 0)).2] }, (s.bnds.length : Int)) := by
  unfold bnd rBinder at hr
  split at hr
  · rw [want_ok (by decide) h] at hr
    injection hr with hr
    exact hr.symm
  · cases hr

theorem add_ok {x : EX} {r : RS × Int} (hr : add x s = some r) : r = ({ s with exps := s.exps ++ [x] }, (s.exps.length : Int)) := by
  unfold add rExp at hr
  split at hr
  · injection hr with hr
    exact hr.symm
  · cases hr
theorem addP_ok {x : PT} {r : RS × Int} (hr : addP x s = some r) : r = ({ s with pats := s.pats ++ [x] }, (s.pats.length : Int)) := by
  unfold addP rPat at hr
  split at hr
  · injection hr with hr
    exact hr.symm
  · cases hr

theorem bindS {α β : Type} {o : Option α} {f : α → Option β} {r : β} (h : o.bind f = some r) : ∃ x, o = some x ∧ f x = some r := by
  cases o with
  | none => cases h
  | some x => exact ⟨x, rfl, h⟩

theorem ext_add (x : EX) : Ext s { s with exps := s.exps ++ [x] } := ⟨⟨[x], rfl⟩, ⟨[], by simp⟩, ⟨[], by simp⟩⟩
theorem ext_addP (x : PT) : Ext s { s with pats := s.pats ++ [x] } := ⟨⟨[], by simp⟩, ⟨[x], rfl⟩, ⟨[], by simp⟩⟩
theorem ext_bnd (p : Nat) (b : Int) : Ext s { s with pos := p, bnds := s.bnds ++ [b] } := ⟨⟨[], by simp⟩, ⟨[], by simp⟩, ⟨[b], rfl⟩⟩
theorem ext_pos (p : Nat) : Ext s { s with pos := p } := ⟨⟨[], by simp⟩, ⟨[], by simp⟩, ⟨[], by simp⟩⟩
theorem expAt_new (x : EX) : expAt { s with exps := s.exps ++ [x] } (s.exps.length : Int) = some x := by
  unfold expAt
  rw [if_pos (by omega)]
  simp
theorem patAt_new (x : PT) : patAt { s with pats := s.pats ++ [x] } (s.pats.length : Int) = some x := by
  unfold patAt
  rw [if_pos (by omega)]
  simp

theorem bn_new {names : List (List UInt8)} {ws : List RW} (hW : WsOk names L ws) (h : kd L s.pos = 2) (p : Nat) : Bn names { s with pos := p, bnds := s.bnds ++ [(L.getD s.pos (0, 0)).2] } (s.bnds.length : Int) (tx ws s.pos) := by
  have hi : s.pos < L.length := kd_in (by omega)
  have hk : (L.getD s.pos (0, 0)).1 = 2 := h
  rcases hW.at hi with ⟨h1, h2, h3, k, h4, h5⟩ | ⟨h1, h3, h4⟩ | ⟨h1, m, h3, h4⟩
  · exact ⟨by omega, k, by rw [h4]; simp, h5⟩
  · rw [h4] at hk; simp at hk
  · rw [h4] at hk; simp at hk; omega
end
end Go.Proofs.YtnbhnjokpcdnnaaDoor

/- What is derived is read so. -/
namespace Go.Proofs.YtnbhnjokpcdnnaaDoor

theorem toC_eq : ∀ {a b : List Code}, toC a = toC b → a = b
  | [], [], _ => rfl
  | [], _ :: _, h => by cases h
  | _ :: _, [], h => by cases h
  | x :: l, y :: m, h => by
    simp only [toC, Code.seq.injEq] at h
    rw [h.1, toC_eq h.2]

theorem nd_inj {k k' nm nm' ow ow' : List UInt8} {n n' : Int} {a a' b b' : List Code} (h : nd k n nm ow a b = nd k' n' nm' ow' a' b') : a = a' ∧ b = b' := by
  unfold nd at h
  injection h with _ h1 h2
  exact ⟨toC_eq h1, toC_eq h2⟩

section
variable {names : List (List UInt8)} {L : List (Int × Int)} {ws : List RW} {n : Nat}

def AllC (L : List (Int × Int)) (ws : List RW) (names : List (List UInt8)) (n : Nat) : Prop := ∀ m, m ≤ n → CmE L ws names m ∧ CmP L ws names m

theorem fo_of {j : Nat} {c : Int} (h : kd L j = c) (hd : begA c = false ∧ mulK c = 0 ∧ addK c = 0 ∧ c ≠ 24 ∧ cmpK c = 0) : Fo L 0 j := by
  subst h
  exact hd

/-- An expression is read. -/
theorem AllC.e (H : AllC L ws names n) {m k i j : Nat} {t : Code} (hm : m ≤ n) (hk : k ≤ 6) (hd : der ws m k i j t) (hF : Fo L k j) {N : Nat} {s : RS} {r : RS × Int} (hr : rdr L N (tagOf k) s = some r) (hi : s.pos = i) (hb : s.bad = false) (hj : j ≤ L.length := by omega) : r.1.pos = j ∧ r.1.bad = false ∧ Ext s r.1 ∧ Te names r.1 m t r.2 :=
  (H m hm).1 k i j t hk hd hj hF N s r hr hi hb
theorem AllC.p (H : AllC L ws names n) {m k i j : Nat} {t : Code} (hm : m ≤ n) (hk : k = 7 ∨ k = 8) (hd : der ws m k i j t) (hF : Fo L k j) {N : Nat} {s : RS} {r : RS × Int} (hr : rdr L N (tagOf k) s = some r) (hi : s.pos = i) (hb : s.bad = false) (hj : j ≤ L.length := by omega) : r.1.pos = j ∧ r.1.bad = false ∧ Ext s r.1 ∧ Tp names r.1 m t r.2 :=
  (H m hm).2 k i j t hk hd hj hF N s r hr hi hb

theorem rdr_succ {N tag : Nat} {s : RS} {r : RS × Int} (h : rdr L N tag s = some r) : ∃ M, N = M + 1 := by
  cases N with
  | zero => cases h
  | succ M => exact ⟨M, rfl⟩

theorem der_lt {m k i j : Nat} {t : Code} (h : der ws m k i j t) : i < j := Dv_lt ⟨m, h⟩

/-- Definitions. -/
theorem c_defs (hW : WsOk names L ws) (H : AllC L ws names n) {N : Nat} : ∀ (m i j : Nat) (ds : List Code), m ≤ n → der ws m 10 i j (nd [100, 101, 102, 115] 0 [] [] ds []) → kd L j = 6 → ∀ (M : Nat) (s : RS) (l : List (Int × Int × Int)) (r : RS × List (Int × Int × Int)), tFuns L (rdr L N) M s l = some r → s.pos = i → s.bad = false →
    r.1.pos = j ∧ r.1.bad = false ∧ Ext s r.1 ∧ ∃ l', r.2 = l ++ l' ∧ ds ≠ [] ∧ Tfs names r.1 (Te names r.1 n) ds l'
  | 0, _, _, _, _, h, _, _, _, _, _, _, _, _ => h.elim
  | m + 1, i, j, ds, hm, hd, hj, 0, s, l, r, hr, _, _ => by cases hr
  | m + 1, i, j, ds, hm, hd, hj, M + 1, s, l, r, hr, hi, hb => by
    have hjl : j < L.length := kd_in (by omega)
    obtain ⟨h0, g1, g2, g3, p, b, g4, g5, g6, g7⟩ := hd
    subst hi
    have k1 := (kd_nm hW _).2 g1
    have k2 := (kd_nm hW _).2 g2
    have k3 := (kw hW (k := 23) (c := 26) rfl rfl).2 g3
    rw [tFuns] at hr
    obtain ⟨f, hf, hr⟩ := bindS hr
    unfold tFun at hf
    obtain ⟨x1, e1, hf⟩ := bindS hf
    obtain rfl := bnd_ok k1 e1
    obtain ⟨x2, e2, hf⟩ := bindS hf
    obtain rfl := bnd_ok (s := { s with pos := s.pos + 1, bnds := s.bnds ++ [(L.getD s.pos (0, 0)).2] }) k2 e2
    simp only [] at hf
    rw [want_ok (s := { s with pos := s.pos + 1 + 1, bnds := (s.bnds ++ [(L.getD s.pos (0, 0)).2]) ++ [(L.getD (s.pos + 1) (0, 0)).2] }) (by decide) k3] at hf
    obtain ⟨x3, e3, hf⟩ := bindS hf
    injection hf with hf
    subst hf
    have hfo : Fo L 0 p := by
      rcases g7 with ⟨rfl, -⟩ | ⟨-, h, -⟩
      · exact fo_of hj (by decide)
      · exact fo_of ((kw hW (k := 2) (c := 5) rfl rfl).2 h) (by decide)
    obtain ⟨u1, u2, u3, u4⟩ := H.e (k := 0) (by omega) (by decide) g6 hfo e3 rfl hb
    have x13 : Ext s x3.1 := ((ext_bnd (s := s) (s.pos + 1) (L.getD s.pos (0, 0)).2).trans (ext_bnd _ _)).trans ((ext_pos _).trans u3)
    have b1 : Bn names x3.1 (s.bnds.length : Int) (tx ws s.pos) := (bn_new hW k1 (s.pos + 1)).ext ((ext_bnd (s.pos + 1 + 1) (L.getD (s.pos + 1) (0, 0)).2).trans ((ext_pos _).trans u3))
    have b2 : Bn names x3.1 ((s.bnds ++ [(L.getD s.pos (0, 0)).2]).length : Int) (tx ws (s.pos + 1)) := (bn_new (s := { s with pos := s.pos + 1, bnds := s.bnds ++ [(L.getD s.pos (0, 0)).2] }) hW k2 (s.pos + 1 + 1)).ext ((ext_pos _).trans u3)
    split at hr
    · rcases g7 with ⟨rfl, g7⟩ | ⟨g8, g9, ds', g10, g11⟩
      · rw [take_no (by rw [u1, hj]; decide)] at hr
        simp only [Bool.false_eq_true, if_false] at hr
        injection hr with hr
        subst hr
        have g7' := (nd_inj g7).1
        subst g7'
        exact ⟨u1, u2, x13, _, rfl, by simp, ⟨_, _, _, rfl, b1, b2, Te.up (Ext.refl _) m n (by omega) _ _ u4⟩, trivial⟩
      · have k5 := (kw hW (k := 2) (c := 5) rfl rfl).2 g9
        rw [take_ok (by decide) (by rw [u1]; exact k5)] at hr
        simp only [if_true] at hr
        obtain ⟨v1, v2, v3, l', v4, -, v5⟩ := c_defs hW H m (p + 1) j ds' (by omega) g10 hj M { x3.1 with pos := x3.1.pos + 1 } _ r hr (by simp only []; omega) u2
        have g12 := (nd_inj g11).1
        subst g12
        have xe : Ext x3.1 r.1 := (ext_pos _).trans v3
        exact ⟨v1, v2, x13.trans xe, _ :: l', by rw [v4, List.append_assoc]; rfl, by simp, ⟨_, _, _, rfl, b1.ext xe, b2.ext xe, Te.up xe m n (by omega) _ _ u4⟩, v5⟩
    · cases hr

end
end Go.Proofs.YtnbhnjokpcdnnaaDoor

namespace Go.Proofs.YtnbhnjokpcdnnaaDoor
section
variable {names : List (List UInt8)} {L : List (Int × Int)} {ws : List RW} {n : Nat}

/-- Clauses. -/
theorem c_arms (hW : WsOk names L ws) (H : AllC L ws names n) {N : Nat} : ∀ (m i j : Nat) (bs qs : List Code), m ≤ n → der ws m 9 i j (nd [99, 108, 97, 117, 115, 101, 115] 0 [] [] bs qs) → kd L j = 13 → ∀ (M : Nat) (s : RS) (l : List (Int × Int)) (r : RS × List (Int × Int)), tArms L (rdr L N) M s l = some r → s.pos = i → s.bad = false →
    r.1.pos = j ∧ r.1.bad = false ∧ Ext s r.1 ∧ ∃ l', r.2 = l ++ l' ∧ Tas (Te names r.1 n) (Tp names r.1 n) bs qs l'
  | 0, _, _, _, _, _, h, _, _, _, _, _, _, _, _ => h.elim
  | m + 1, i, j, bs, qs, hm, hd, hj, 0, s, l, r, hr, _, _ => by cases hr
  | m + 1, i, j, bs, qs, hm, hd, hj, M + 1, s, l, r, hr, hi, hb => by
    have hjl : j < L.length := kd_in (by omega)
    obtain ⟨h0, p, q, g1, g2, g3, g4, e, b, g5, g6, g7, g8⟩ := hd
    subst hi
    have k3 := (kw hW (k := 20) (c := 23) rfl rfl).2 g3
    rw [tArms] at hr
    obtain ⟨f, hf, hr⟩ := bindS hr
    unfold tArm at hf
    obtain ⟨x1, e1, hf⟩ := bindS hf
    obtain ⟨v1, v2, v3, v4⟩ := H.p (k := 7) (by omega) (.inl rfl) g4 (by show kd L p ≠ 24; rw [k3]; decide) e1 rfl hb
    rw [want_ok (by decide) (by rw [v1]; exact k3)] at hf
    obtain ⟨x3, e3, hf⟩ := bindS hf
    injection hf with hf
    subst hf
    have hfo : Fo L 0 e := by
      rcases g8 with ⟨rfl, -⟩ | ⟨-, h, -⟩
      · exact fo_of hj (by decide)
      · exact fo_of ((kw hW (k := 32) (c := 35) rfl rfl).2 h) (by decide)
    obtain ⟨u1, u2, u3, u4⟩ := H.e (k := 0) (by omega) (by decide) g7 hfo e3 (by simp only []; omega) v2
    have xe1 : Ext x1.1 x3.1 := (ext_pos _).trans u3
    have x13 : Ext s x3.1 := v3.trans xe1
    split at hr
    · rcases g8 with ⟨rfl, g7⟩ | ⟨g8, g9, bs', qs', g10, g11⟩
      · rw [take_no (by rw [u1, hj]; decide)] at hr
        simp only [Bool.false_eq_true, if_false] at hr
        injection hr with hr
        subst hr
        obtain ⟨rfl, rfl⟩ := nd_inj g7
        exact ⟨u1, u2, x13, _, rfl, ⟨Tp.up xe1 m n (by omega) _ _ v4, Te.up (Ext.refl _) m n (by omega) _ _ u4⟩, trivial⟩
      · have k5 := (kw hW (k := 32) (c := 35) rfl rfl).2 g9
        rw [take_ok (by decide) (by rw [u1]; exact k5)] at hr
        simp only [if_true] at hr
        obtain ⟨w1, w2, w3, l', w4, w5⟩ := c_arms hW H m (e + 1) j bs' qs' (by omega) g10 hj M { x3.1 with pos := x3.1.pos + 1 } _ r hr (by simp only []; omega) u2
        obtain ⟨rfl, rfl⟩ := nd_inj g11
        have xe : Ext x3.1 r.1 := (ext_pos _).trans w3
        exact ⟨w1, w2, x13.trans xe, _ :: l', by rw [w4, List.append_assoc]; rfl, ⟨Tp.up (xe1.trans xe) m n (by omega) _ _ v4, Te.up xe m n (by omega) _ _ u4⟩, w5⟩
    · cases hr

theorem c_let (hW : WsOk names L ws) (H : AllC L ws names n) {i j : Nat} {t : Code} (hij : i < j) (hw : wd ws i [108, 101, 116] = true) (hd : bLet ws (der ws n) i j t) (hjl : j ≤ L.length) (hF : Fo L 0 j) {N : Nat} {s : RS} {r : RS × Int} (hr : rdr L N 1 s = some r) (hi : s.pos = i) (hb : s.bad = false) : r.1.pos = j ∧ r.1.bad = false ∧ Ext s r.1 ∧ Te names r.1 (n + 1) t r.2 := by
  subst hi
  obtain ⟨N, rfl⟩ := rdr_succ hr
  replace hr : tLet L (rdr L N) s = some r := hr
  have k1 := (kw hW (k := 0) (c := 3) rfl rfl).2 hw
  unfold tLet at hr
  rw [want_ok (by decide) k1] at hr
  rcases hd with ⟨g1, p, ds, b, g2, g3, g4, g5, g6, rfl⟩ | ⟨g1, g2, p, a, b, g3, g4, g5, g6, g7, rfl⟩
  · have k2 := (kw hW (k := 1) (c := 4) rfl rfl).2 g1
    rw [take_ok (s := { s with pos := s.pos + 1 }) (by decide) k2] at hr
    simp only [if_true] at hr
    obtain ⟨N, rfl⟩ := rdr_succ hr
    replace hr : tLetRec L (rdr L N) N { s with pos := s.pos + 1 + 1 } = some r := hr
    unfold tLetRec at hr
    have k6 := (kw hW (k := 3) (c := 6) rfl rfl).2 g4
    obtain ⟨f, e1, hr⟩ := bindS hr
    obtain ⟨v1, v2, v3, l', v4, v6, v5⟩ := c_defs hW H n _ _ _ (Nat.le_refl _) g5 k6 _ _ _ _ e1 rfl hb
    rw [want_ok (by decide) (by rw [v1]; exact k6)] at hr
    obtain ⟨x2, e2, hr⟩ := bindS hr
    obtain ⟨u1, u2, u3, u4⟩ := H.e (k := 0) (Nat.le_refl _) (by decide) g6 hF e2 (by simp only []; omega) v2
    obtain rfl := add_ok hr
    have xe : Ext f.1 x2.1 := (ext_pos _).trans u3
    refine ⟨u1, u2, (ext_pos _).trans (v3.trans (xe.trans (ext_add _))), _, expAt_new _, .inr (.inr (.inr (.inr (.inr (.inr (.inr (.inl ⟨rfl, ds, b, rfl, ?_, Te.up (ext_add _) _ _ (Nat.le_refl _) _ _ u4⟩)))))))⟩
    have v4' : f.2 = l' := by rw [v4]; rfl
    refine ⟨v6, ?_⟩
    show Tfs names _ _ ds f.2
    rw [v4']
    exact v5.mono (xe.trans (ext_add _)) (fun _ _ => Te.up (xe.trans (ext_add _)) _ _ (Nat.le_refl _) _ _)
  · have k2 := (kd_nm hW _).2 g1
    have k3 := (kw hW (k := 23) (c := 26) rfl rfl).2 g2
    have k6 := (kw hW (k := 3) (c := 6) rfl rfl).2 g5
    rw [take_no (s := { s with pos := s.pos + 1 }) (by show kd L (s.pos + 1) ≠ 4; rw [k2]; decide)] at hr
    simp only [Bool.false_eq_true, if_false] at hr
    obtain ⟨x1, e1, hr⟩ := bindS hr
    obtain rfl := bnd_ok (s := { s with pos := s.pos + 1 }) k2 e1
    simp only [] at hr
    rw [want_ok (s := { s with pos := s.pos + 1 + 1, bnds := s.bnds ++ [(L.getD (s.pos + 1) (0, 0)).2] }) (by decide) k3] at hr
    obtain ⟨x2, e2, hr⟩ := bindS hr
    obtain ⟨u1, u2, u3, u4⟩ := H.e (k := 0) (Nat.le_refl _) (by decide) g6 (fo_of k6 (by decide)) e2 rfl hb
    rw [want_ok (by decide) (by rw [u1]; exact k6)] at hr
    obtain ⟨x3, e3, hr⟩ := bindS hr
    obtain ⟨w1, w2, w3, w4⟩ := H.e (k := 0) (Nat.le_refl _) (by decide) g7 hF e3 (by simp only []; omega) u2
    obtain rfl := add_ok hr
    have xe : Ext x2.1 x3.1 := (ext_pos _).trans w3
    have xb := (ext_pos (s := { s with pos := s.pos + 1 + 1, bnds := s.bnds ++ [(L.getD (s.pos + 1) (0, 0)).2] }) (s.pos + 1 + 1 + 1)).trans (u3.trans (xe.trans (ext_add ⟨10, 0, (s.bnds.length : Int), x2.2, x3.2, 0, [], []⟩)))
    refine ⟨w1, w2, (ext_bnd (s.pos + 1 + 1) (L.getD (s.pos + 1) (0, 0)).2).trans xb, _, expAt_new _, .inr (.inr (.inr (.inr (.inr (.inr (.inl ⟨.inl rfl, _, _, a, b, .inl rfl, rfl, ?_, Te.up (xe.trans (ext_add _)) _ _ (Nat.le_refl _) _ _ u4, Te.up (ext_add _) _ _ (Nat.le_refl _) _ _ w4⟩))))))⟩
    exact (bn_new (s := { s with pos := s.pos + 1 }) hW k2 (s.pos + 1 + 1)).ext xb

theorem c_fn (hW : WsOk names L ws) (H : AllC L ws names n) {i j : Nat} {t : Code} (hw : wd ws i [102, 110] = true) (hd : bFn ws (der ws n) i j t) (hjl : j ≤ L.length) (hF : Fo L 0 j) {N : Nat} {s : RS} {r : RS × Int} (hr : rdr L N 2 s = some r) (hi : s.pos = i) (hb : s.bad = false) : r.1.pos = j ∧ r.1.bad = false ∧ Ext s r.1 ∧ Te names r.1 (n + 1) t r.2 := by
  subst hi
  obtain ⟨N, rfl⟩ := rdr_succ hr
  replace hr : tFn L (rdr L N) s = some r := hr
  have k1 := (kw hW (k := 4) (c := 7) rfl rfl).2 hw
  unfold tFn at hr
  rw [want_ok (by decide) k1] at hr
  obtain ⟨g1, g2, b, g7, rfl⟩ := hd
  have k2 := (kd_nm hW _).2 g1
  have k3 := (kw hW (k := 20) (c := 23) rfl rfl).2 g2
  obtain ⟨x1, e1, hr⟩ := bindS hr
  obtain rfl := bnd_ok (s := { s with pos := s.pos + 1 }) k2 e1
  simp only [] at hr
  rw [want_ok (s := { s with pos := s.pos + 1 + 1, bnds := s.bnds ++ [(L.getD (s.pos + 1) (0, 0)).2] }) (by decide) k3] at hr
  obtain ⟨x2, e2, hr⟩ := bindS hr
  obtain ⟨u1, u2, u3, u4⟩ := H.e (k := 0) (Nat.le_refl _) (by decide) g7 hF e2 rfl hb
  obtain rfl := add_ok hr
  have xb := (ext_pos (s := { s with pos := s.pos + 1 + 1, bnds := s.bnds ++ [(L.getD (s.pos + 1) (0, 0)).2] }) (s.pos + 1 + 1 + 1)).trans (u3.trans (ext_add ⟨12, 0, (s.bnds.length : Int), x2.2, 0, 0, [], []⟩))
  refine ⟨u1, u2, (ext_bnd (s.pos + 1 + 1) (L.getD (s.pos + 1) (0, 0)).2).trans xb, _, expAt_new _, .inr (.inr (.inr (.inr (.inr (.inl ⟨rfl, _, b, rfl, ?_, Te.up (ext_add _) _ _ (Nat.le_refl _) _ _ u4⟩)))))⟩
  exact (bn_new (s := { s with pos := s.pos + 1 }) hW k2 (s.pos + 1 + 1)).ext xb

theorem c_if (hW : WsOk names L ws) (H : AllC L ws names n) {i j : Nat} {t : Code} (hw : wd ws i [105, 102] = true) (hd : bIf ws (der ws n) i j t) (hjl : j ≤ L.length) (hF : Fo L 0 j) {N : Nat} {s : RS} {r : RS × Int} (hr : rdr L N 3 s = some r) (hi : s.pos = i) (hb : s.bad = false) : r.1.pos = j ∧ r.1.bad = false ∧ Ext s r.1 ∧ Te names r.1 (n + 1) t r.2 := by
  subst hi
  obtain ⟨N, rfl⟩ := rdr_succ hr
  replace hr : tIf L (rdr L N) s = some r := hr
  have k1 := (kw hW (k := 5) (c := 8) rfl rfl).2 hw
  unfold tIf at hr
  rw [want_ok (by decide) k1] at hr
  obtain ⟨p, q, a, b, d, g1, g2, g3, g4, g5, g6, g7, g8, g9, rfl⟩ := hd
  have k2 := (kw hW (k := 6) (c := 9) rfl rfl).2 g3
  have k3 := (kw hW (k := 7) (c := 10) rfl rfl).2 g7
  obtain ⟨x1, e1, hr⟩ := bindS hr
  obtain ⟨u1, u2, u3, u4⟩ := H.e (k := 0) (Nat.le_refl _) (by decide) g4 (fo_of k2 (by decide)) e1 rfl hb
  rw [want_ok (by decide) (by rw [u1]; exact k2)] at hr
  obtain ⟨x2, e2, hr⟩ := bindS hr
  obtain ⟨v1, v2, v3, v4⟩ := H.e (k := 0) (Nat.le_refl _) (by decide) g8 (fo_of k3 (by decide)) e2 (by simp only []; omega) u2
  rw [want_ok (by decide) (by rw [v1]; exact k3)] at hr
  obtain ⟨x3, e3, hr⟩ := bindS hr
  obtain ⟨w1, w2, w3, w4⟩ := H.e (k := 0) (Nat.le_refl _) (by decide) g9 hF e3 (by simp only []; omega) v2
  obtain rfl := add_ok hr
  have y1 := (ext_pos (s := s) (s.pos + 1)).trans u3
  have y2 := (ext_pos (s := x1.1) (x1.1.pos + 1)).trans v3
  have y3 := ((ext_pos (s := x2.1) (x2.1.pos + 1)).trans w3).trans (ext_add ⟨13, 0, 0, x1.2, x2.2, x3.2, [], []⟩)
  exact ⟨w1, w2, y1.trans (y2.trans y3), _, expAt_new _, .inr (.inr (.inr (.inr (.inl ⟨rfl, a, b, d, rfl, Te.up (y2.trans y3) _ _ (Nat.le_refl _) _ _ u4, Te.up y3 _ _ (Nat.le_refl _) _ _ v4, Te.up (ext_add _) _ _ (Nat.le_refl _) _ _ w4⟩))))⟩

theorem c_match (hW : WsOk names L ws) (H : AllC L ws names n) {i j : Nat} {t : Code} (hij : i < j) (hw : wd ws i [109, 97, 116, 99, 104] = true) (hd : bMatch ws (der ws n) i j t) {N : Nat} {s : RS} {r : RS × Int} (hr : rdr L N 4 s = some r) (hi : s.pos = i) (hb : s.bad = false) : r.1.pos = j ∧ r.1.bad = false ∧ Ext s r.1 ∧ Te names r.1 (n + 1) t r.2 := by
  subst hi
  obtain ⟨N, rfl⟩ := rdr_succ hr
  replace hr : tMatch L (rdr L N) N s = some r := hr
  have k1 := (kw hW (k := 8) (c := 11) rfl rfl).2 hw
  unfold tMatch at hr
  rw [want_ok (by decide) k1] at hr
  obtain ⟨g0, p, a, bs, qs, g1, g2, g3, g4, g5, rfl⟩ := hd
  have k2 := (kw hW (k := 9) (c := 12) rfl rfl).2 g3
  have k3 := (kw hW (k := 10) (c := 13) rfl rfl).2 g0
  have hjl : j - 1 < L.length := kd_in (by omega)
  obtain ⟨x1, e1, hr⟩ := bindS hr
  obtain ⟨u1, u2, u3, u4⟩ := H.e (k := 0) (Nat.le_refl _) (by decide) g4 (fo_of k2 (by decide)) e1 rfl hb
  rw [want_ok (by decide) (by rw [u1]; exact k2)] at hr
  obtain ⟨x2, e2, hr⟩ := bindS hr
  obtain ⟨v1, v2, v3, l', v4, v5⟩ := c_arms hW H n _ _ _ _ (Nat.le_refl _) g5 k3 _ _ _ _ e2 (by simp only []; omega) u2
  rw [want_ok (by decide) (by rw [v1]; exact k3)] at hr
  obtain rfl := add_ok hr
  have y1 := (ext_pos (s := s) (s.pos + 1)).trans u3
  have y2 := (ext_pos (s := x1.1) (x1.1.pos + 1)).trans v3
  have y3 := (ext_pos (s := x2.1) (x2.1.pos + 1)).trans (ext_add ⟨14, 0, 0, x1.2, 0, 0, [], x2.2⟩)
  have v4' : x2.2 = l' := by rw [v4]; rfl
  refine ⟨by show x2.1.pos + 1 = j; omega, v2, y1.trans (y2.trans y3), _, expAt_new _, .inr (.inr (.inr (.inr (.inr (.inr (.inr (.inr ⟨rfl, a, bs, qs, rfl, Te.up (y2.trans y3) _ _ (Nat.le_refl _) _ _ u4, ?_⟩)))))))⟩
  rw [← v4'] at v5
  exact v5.mono (fun _ _ => Te.up y3 _ _ (Nat.le_refl _) _ _) (fun _ _ => Tp.up y3 _ _ (Nat.le_refl _) _ _)

theorem c_try (hW : WsOk names L ws) (H : AllC L ws names n) {i j : Nat} {t : Code} (hij : i < j) (hw : wd ws i [116, 114, 121] = true) (hd : bTry ws (der ws n) i j t) {N : Nat} {s : RS} {r : RS × Int} (hr : rdr L N 5 s = some r) (hi : s.pos = i) (hb : s.bad = false) : r.1.pos = j ∧ r.1.bad = false ∧ Ext s r.1 ∧ Te names r.1 (n + 1) t r.2 := by
  subst hi
  obtain ⟨N, rfl⟩ := rdr_succ hr
  replace hr : tTry L (rdr L N) s = some r := hr
  have k1 := (kw hW (k := 11) (c := 14) rfl rfl).2 hw
  unfold tTry at hr
  rw [want_ok (by decide) k1] at hr
  obtain ⟨g0, p, a, b, g1, g2, g3, g4, g5, g6, g7, rfl⟩ := hd
  have k2 := (kw hW (k := 9) (c := 12) rfl rfl).2 g3
  have k3 := (kw hW (k := 10) (c := 13) rfl rfl).2 g0
  have hjl : j - 1 < L.length := kd_in (by omega)
  have k4 := (kd_nm hW _).2 g5
  have k5 := (kw hW (k := 20) (c := 23) rfl rfl).2 g6
  have hlt := der_lt g7
  obtain ⟨x1, e1, hr⟩ := bindS hr
  obtain ⟨u1, u2, u3, u4⟩ := H.e (k := 0) (Nat.le_refl _) (by decide) g4 (fo_of k2 (by decide)) e1 rfl hb
  rw [want_ok (by decide) (by rw [u1]; exact k2)] at hr
  obtain ⟨x2, e2, hr⟩ := bindS hr
  obtain rfl := bnd_ok (s := { x1.1 with pos := x1.1.pos + 1 }) (by show kd L (x1.1.pos + 1) = 2; rw [u1]; exact k4) e2
  simp only [] at hr
  rw [want_ok (s := { x1.1 with pos := x1.1.pos + 1 + 1, bnds := x1.1.bnds ++ [(L.getD (x1.1.pos + 1) (0, 0)).2] }) (by decide) (by show kd L (x1.1.pos + 1 + 1) = 23; rw [u1]; exact k5)] at hr
  obtain ⟨x3, e3, hr⟩ := bindS hr
  obtain ⟨v1, v2, v3, v4⟩ := H.e (k := 0) (Nat.le_refl _) (by decide) g7 (fo_of k3 (by decide)) e3 (by simp only []; omega) u2
  rw [want_ok (by decide) (by rw [v1]; exact k3)] at hr
  obtain rfl := add_ok hr
  have y1 := (ext_pos (s := s) (s.pos + 1)).trans u3
  have y2 := (ext_pos (s := { x1.1 with pos := x1.1.pos + 1 + 1, bnds := x1.1.bnds ++ [(L.getD (x1.1.pos + 1) (0, 0)).2] }) (x1.1.pos + 1 + 1 + 1)).trans v3
  have y3 := (ext_pos (s := x3.1) (x3.1.pos + 1)).trans (ext_add ⟨15, 0, (x1.1.bnds.length : Int), x1.2, x3.2, 0, [], []⟩)
  have y4 := (ext_bnd (s := x1.1) (x1.1.pos + 1 + 1) (L.getD (x1.1.pos + 1) (0, 0)).2).trans (y2.trans y3)
  refine ⟨by show x3.1.pos + 1 = j; omega, v2, y1.trans y4, _, expAt_new _, .inr (.inr (.inr (.inr (.inr (.inr (.inl ⟨.inr rfl, _, _, a, b, .inr rfl, rfl, ?_, Te.up y4 _ _ (Nat.le_refl _) _ _ u4, Te.up y3 _ _ (Nat.le_refl _) _ _ v4⟩))))))⟩
  have := bn_new (s := { x1.1 with pos := x1.1.pos + 1 }) hW (by show kd L (x1.1.pos + 1) = 2; rw [u1]; exact k4) (x1.1.pos + 1 + 1)
  have h2 : tx ws (p + 1) = tx ws (x1.1.pos + 1) := by rw [u1]
  rw [h2]
  exact this.ext (y2.trans y3)
end
end Go.Proofs.YtnbhnjokpcdnnaaDoor

namespace Go.Proofs.YtnbhnjokpcdnnaaDoor
section
variable {names : List (List UInt8)} {L : List (Int × Int)} {ws : List RW} {n : Nat}

theorem opK_of {p : Nat} {x : List UInt8} (h : wd ws p x = true) : opK ws p = if x = [58, 58] then [99, 111, 110, 115] else x := by
  unfold opK
  rw [(wd_tx h).2.1]

theorem c_cmp (hW : WsOk names L ws) (H : AllC L ws names n) {i j : Nat} {t : Code} (hd : bInf ws (der ws n) i j 2 2 2 [61] [60] t) (hjl : j ≤ L.length) (hF : Fo L 1 j) {N : Nat} {s : RS} {r : RS × Int} (hr : rdr L N 6 s = some r) (hi : s.pos = i) (hb : s.bad = false) : r.1.pos = j ∧ r.1.bad = false ∧ Ext s r.1 ∧ Te names r.1 (n + 1) t r.2 := by
  subst hi
  obtain ⟨N, rfl⟩ := rdr_succ hr
  replace hr : tCmp L (rdr L N) s = some r := hr
  unfold tCmp at hr
  obtain ⟨x1, e1, hr⟩ := bindS hr
  have hk1 : (rPeek L x1.1).1 = kd L x1.1.pos := rfl
  rw [hk1] at hr
  have hF2 : Fo L 2 j := ⟨hF.1, hF.2.1, hF.2.2.1, hF.2.2.2.1⟩
  rcases hd with h | ⟨p, a, b, g1, g2, g3, g4, g5, rfl⟩
  · obtain ⟨u1, u2, u3, u4⟩ := H.e (k := 2) (Nat.le_refl _) (by decide) h hF2 e1 rfl hb
    rw [u1, if_pos hF.2.2.2.2] at hr
    injection hr with hr
    subst hr
    exact ⟨u1, u2, u3, Te.up (Ext.refl _) n (n + 1) (by omega) _ _ u4⟩
  · have hk : ∃ c : Int, kd L p = c ∧ (begA c = false ∧ mulK c = 0 ∧ addK c = 0 ∧ c ≠ 24) ∧ ¬ cmpK c = 0 ∧ two (cmpK c) = true ∧ twoN (opK ws p) = true := by
      rcases g3 with g3 | g3
      · exact ⟨26, (kw hW (k := 23) rfl rfl).2 g3, by decide, by decide, by decide, by rw [opK_of g3]; decide⟩
      · exact ⟨27, (kw hW (k := 24) rfl rfl).2 g3, by decide, by decide, by decide, by rw [opK_of g3]; decide⟩
    obtain ⟨c, hk, hfo, hc, htw, hop⟩ := hk
    obtain ⟨u1, u2, u3, u4⟩ := H.e (k := 2) (Nat.le_refl _) (by decide) g4 (by rw [← hk] at hfo; exact hfo) e1 rfl hb
    rw [u1, hk, if_neg hc] at hr
    have hlt : x1.1.pos < L.length := by rw [u1]; exact kd_in (by rw [hk]; rintro rfl; exact hc rfl)
    rw [step_q L _ hlt] at hr
    obtain ⟨x2, e2, hr⟩ := bindS hr
    obtain ⟨v1, v2, v3, v4⟩ := H.e (k := 2) (Nat.le_refl _) (by decide) g5 hF2 e2 (by simp only []; omega) u2
    obtain rfl := add_ok hr
    have y2 := ((ext_pos (s := x1.1) (x1.1.pos + 1)).trans v3).trans (ext_add ⟨cmpK c, 0, 0, x1.2, x2.2, 0, [], []⟩)
    exact ⟨v1, v2, u3.trans y2, _, expAt_new _, .inr (.inr (.inr (.inl ⟨htw, _, a, b, hop, rfl, Te.up y2 _ _ (Nat.le_refl _) _ _ u4, Te.up (ext_add _) _ _ (Nat.le_refl _) _ _ v4⟩)))⟩

theorem c_cons (hW : WsOk names L ws) (H : AllC L ws names n) {i j : Nat} {t : Code} (hd : bInf ws (der ws n) i j 3 2 3 [58, 58] [58, 58] t) (hjl : j ≤ L.length) (hF : Fo L 2 j) {N : Nat} {s : RS} {r : RS × Int} (hr : rdr L N 8 s = some r) (hi : s.pos = i) (hb : s.bad = false) : r.1.pos = j ∧ r.1.bad = false ∧ Ext s r.1 ∧ Te names r.1 (n + 1) t r.2 := by
  subst hi
  obtain ⟨N, rfl⟩ := rdr_succ hr
  replace hr : tCons L (rdr L N) s = some r := hr
  unfold tCons at hr
  obtain ⟨x1, e1, hr⟩ := bindS hr
  have hF2 : Fo L 3 j := ⟨hF.1, hF.2.1, hF.2.2.1⟩
  rcases hd with h | ⟨p, a, b, g1, g2, g3, g4, g5, rfl⟩
  · obtain ⟨u1, u2, u3, u4⟩ := H.e (k := 3) (Nat.le_refl _) (by decide) h hF2 e1 rfl hb
    rw [take_no (by rw [u1]; exact hF.2.2.2)] at hr
    simp only [Bool.false_eq_true, if_false] at hr
    injection hr with hr
    subst hr
    exact ⟨u1, u2, u3, Te.up (Ext.refl _) n (n + 1) (by omega) _ _ u4⟩
  · have g3' : wd ws p [58, 58] = true := by rcases g3 with h | h <;> exact h
    have hk := (kw hW (k := 21) (c := 24) rfl rfl).2 g3'
    obtain ⟨u1, u2, u3, u4⟩ := H.e (k := 3) (Nat.le_refl _) (by decide) g4 (by show _ ∧ _ ∧ _; rw [hk]; decide) e1 rfl hb
    rw [take_ok (by decide) (by rw [u1]; exact hk)] at hr
    simp only [if_true] at hr
    obtain ⟨x2, e2, hr⟩ := bindS hr
    obtain ⟨v1, v2, v3, v4⟩ := H.e (k := 2) (Nat.le_refl _) (by decide) g5 hF e2 (by simp only []; omega) u2
    obtain rfl := add_ok hr
    have y2 := ((ext_pos (s := x1.1) (x1.1.pos + 1)).trans v3).trans (ext_add ⟨8, 0, 0, x1.2, x2.2, 0, [], []⟩)
    exact ⟨v1, v2, u3.trans y2, _, expAt_new _, .inr (.inr (.inr (.inl ⟨rfl, _, a, b, by rw [opK_of g3']; decide, rfl, Te.up y2 _ _ (Nat.le_refl _) _ _ u4, Te.up (ext_add _) _ _ (Nat.le_refl _) _ _ v4⟩)))⟩

theorem c_pat (hW : WsOk names L ws) (H : AllC L ws names n) {i j : Nat} {t : Code} (hd : bInf ws (der ws n) i j 8 7 8 [58, 58] [58, 58] t) (hjl : j ≤ L.length) (hF : Fo L 7 j) {N : Nat} {s : RS} {r : RS × Int} (hr : rdr L N 16 s = some r) (hi : s.pos = i) (hb : s.bad = false) : r.1.pos = j ∧ r.1.bad = false ∧ Ext s r.1 ∧ Tp names r.1 (n + 1) t r.2 := by
  subst hi
  obtain ⟨N, rfl⟩ := rdr_succ hr
  replace hr : tPat L (rdr L N) s = some r := hr
  unfold tPat at hr
  obtain ⟨x1, e1, hr⟩ := bindS hr
  rcases hd with h | ⟨p, a, b, g1, g2, g3, g4, g5, rfl⟩
  · obtain ⟨u1, u2, u3, u4⟩ := H.p (k := 8) (Nat.le_refl _) (.inr rfl) h trivial e1 rfl hb
    rw [take_no (by rw [u1]; exact hF)] at hr
    simp only [Bool.false_eq_true, if_false] at hr
    injection hr with hr
    subst hr
    exact ⟨u1, u2, u3, Tp.up (Ext.refl _) n (n + 1) (by omega) _ _ u4⟩
  · have g3' : wd ws p [58, 58] = true := by rcases g3 with h | h <;> exact h
    have hk := (kw hW (k := 21) (c := 24) rfl rfl).2 g3'
    obtain ⟨u1, u2, u3, u4⟩ := H.p (k := 8) (Nat.le_refl _) (.inr rfl) g4 trivial e1 rfl hb
    rw [take_ok (by decide) (by rw [u1]; exact hk)] at hr
    simp only [if_true] at hr
    obtain ⟨x2, e2, hr⟩ := bindS hr
    obtain ⟨v1, v2, v3, v4⟩ := H.p (k := 7) (Nat.le_refl _) (.inl rfl) g5 hF e2 (by simp only []; omega) u2
    obtain rfl := addP_ok hr
    have y2 := ((ext_pos (s := x1.1) (x1.1.pos + 1)).trans v3).trans (ext_addP ⟨8, 0, 0, x1.2, x2.2⟩)
    exact ⟨v1, v2, u3.trans y2, _, patAt_new _, .inr (.inl ⟨.inr rfl, _, a, b, .inr (opK_of g3'), rfl, Tp.up y2 _ _ (Nat.le_refl _) _ _ u4, Tp.up (ext_addP _) _ _ (Nat.le_refl _) _ _ v4⟩)⟩

theorem sum_pass (hW : WsOk names L ws) (H : AllC L ws names n) {N : Nat} : ∀ (m i j : Nat) (t : Code), m ≤ n + 1 → der ws m 3 i j t → j ≤ L.length → Fo L 4 j → ∀ (M : Nat) (s : RS) (r : RS × Int), tSum L (rdr L N) M s = some r → s.pos = i → s.bad = false →
    ∃ M' s1 l1, tSumL L (rdr L N) M' s1 l1 = some r ∧ s1.pos = j ∧ s1.bad = false ∧ Ext s s1 ∧ Te names s1 m t l1
  | 0, _, _, _, _, h, _, _, _, _, _, _, _, _ => h.elim
  | m + 1, i, j, t, hm, hd, hjl, hF, M, s, r, hr, hi, hb => by
    obtain ⟨h0, hd⟩ := hd
    rcases hd with h | ⟨p, a, b, g1, g2, g3, g4, g5, rfl⟩
    · unfold tSum at hr
      obtain ⟨x1, e1, hr⟩ := bindS hr
      obtain ⟨u1, u2, u3, u4⟩ := H.e (k := 4) (by omega) (by decide) h hF e1 hi hb
      exact ⟨M, x1.1, x1.2, hr, u1, u2, u3, Te.up (Ext.refl _) m (m + 1) (by omega) _ _ u4⟩
    · have hk : ∃ c : Int, kd L p = c ∧ (begA c = false ∧ mulK c = 0) ∧ ¬ addK c = 0 ∧ two (addK c) = true ∧ twoN (opK ws p) = true := by
        rcases g3 with g3 | g3
        · exact ⟨28, (kw hW (k := 25) rfl rfl).2 g3, by decide, by decide, by decide, by rw [opK_of g3]; decide⟩
        · exact ⟨29, (kw hW (k := 26) rfl rfl).2 g3, by decide, by decide, by decide, by rw [opK_of g3]; decide⟩
      obtain ⟨c, hk, hfo, hc, htw, hop⟩ := hk
      obtain ⟨M', s1, l1, q1, q2, q3, q4, q5⟩ := sum_pass hW H m i p a (by omega) g4 (by omega) (by rw [← hk] at hfo; exact hfo) M s r hr hi hb
      cases M' with
      | zero => cases q1
      | succ M' =>
        rw [tSumL] at q1
        have hk1 : (rPeek L s1).1 = kd L s1.pos := rfl
        rw [hk1, q2, hk, if_neg hc] at q1
        have hlt : s1.pos < L.length := by rw [q2]; exact kd_in (by rw [hk]; rintro rfl; exact hc rfl)
        rw [step_q L _ hlt] at q1
        obtain ⟨x2, e2, q1⟩ := bindS q1
        obtain ⟨v1, v2, v3, v4⟩ := H.e (k := 4) (by omega) (by decide) g5 hF e2 (by simp only []; omega) q3
        obtain ⟨x3, e3, q1⟩ := bindS q1
        obtain rfl := add_ok e3
        have y2 := ((ext_pos (s := s1) (s1.pos + 1)).trans v3).trans (ext_add ⟨addK c, 0, 0, l1, x2.2, 0, [], []⟩)
        exact ⟨M', _, _, q1, v1, v2, q4.trans y2, _, expAt_new _, .inr (.inr (.inr (.inl ⟨htw, _, a, b, hop, rfl, Te.up y2 _ _ (Nat.le_refl _) _ _ q5, Te.up (ext_add _) _ _ (Nat.le_refl _) _ _ v4⟩)))⟩

theorem c_sum (hW : WsOk names L ws) (H : AllC L ws names n) {i j : Nat} {t : Code} (hd : der ws (n + 1) 3 i j t) (hjl : j ≤ L.length) (hF : Fo L 4 j) (hF2 : addK (kd L j) = 0) {N : Nat} {s : RS} {r : RS × Int} (hr : rdr L N 9 s = some r) (hi : s.pos = i) (hb : s.bad = false) : r.1.pos = j ∧ r.1.bad = false ∧ Ext s r.1 ∧ Te names r.1 (n + 1) t r.2 := by
  obtain ⟨N, rfl⟩ := rdr_succ hr
  replace hr : tSum L (rdr L N) N s = some r := hr
  obtain ⟨M', s1, l1, q1, q2, q3, q4, q5⟩ := sum_pass hW H (n + 1) i j t (Nat.le_refl _) hd hjl hF N s r hr hi hb
  cases M' with
  | zero => cases q1
  | succ M' =>
    rw [tSumL] at q1
    have hk1 : (rPeek L s1).1 = kd L s1.pos := rfl
    rw [hk1, q2, if_pos hF2] at q1
    injection q1 with q1
    subst q1
    exact ⟨q2, q3, q4, q5⟩

theorem prod_pass (hW : WsOk names L ws) (H : AllC L ws names n) {N : Nat} : ∀ (m i j : Nat) (t : Code), m ≤ n + 1 → der ws m 4 i j t → j ≤ L.length → Fo L 5 j → ∀ (M : Nat) (s : RS) (r : RS × Int), tProd L (rdr L N) M s = some r → s.pos = i → s.bad = false →
    ∃ M' s1 l1, tProdL L (rdr L N) M' s1 l1 = some r ∧ s1.pos = j ∧ s1.bad = false ∧ Ext s s1 ∧ Te names s1 m t l1
  | 0, _, _, _, _, h, _, _, _, _, _, _, _, _ => h.elim
  | m + 1, i, j, t, hm, hd, hjl, hF, M, s, r, hr, hi, hb => by
    obtain ⟨h0, hd⟩ := hd
    rcases hd with h | ⟨p, a, b, g1, g2, g3, g4, g5, rfl⟩
    · unfold tProd at hr
      obtain ⟨x1, e1, hr⟩ := bindS hr
      obtain ⟨u1, u2, u3, u4⟩ := H.e (k := 5) (by omega) (by decide) h hF e1 hi hb
      exact ⟨M, x1.1, x1.2, hr, u1, u2, u3, Te.up (Ext.refl _) m (m + 1) (by omega) _ _ u4⟩
    · have hk : ∃ c : Int, kd L p = c ∧ (begA c = false) ∧ ¬ mulK c = 0 ∧ two (mulK c) = true ∧ twoN (opK ws p) = true := by
        rcases g3 with g3 | g3
        · exact ⟨30, (kw hW (k := 27) rfl rfl).2 g3, by decide, by decide, by decide, by rw [opK_of g3]; decide⟩
        · exact ⟨31, (kw hW (k := 28) rfl rfl).2 g3, by decide, by decide, by decide, by rw [opK_of g3]; decide⟩
      obtain ⟨c, hk, hfo, hc, htw, hop⟩ := hk
      obtain ⟨M', s1, l1, q1, q2, q3, q4, q5⟩ := prod_pass hW H m i p a (by omega) g4 (by omega) (by rw [← hk] at hfo; exact hfo) M s r hr hi hb
      cases M' with
      | zero => cases q1
      | succ M' =>
        rw [tProdL] at q1
        have hk1 : (rPeek L s1).1 = kd L s1.pos := rfl
        rw [hk1, q2, hk, if_neg hc] at q1
        have hlt : s1.pos < L.length := by rw [q2]; exact kd_in (by rw [hk]; rintro rfl; exact hc rfl)
        rw [step_q L _ hlt] at q1
        obtain ⟨x2, e2, q1⟩ := bindS q1
        obtain ⟨v1, v2, v3, v4⟩ := H.e (k := 5) (by omega) (by decide) g5 hF e2 (by simp only []; omega) q3
        obtain ⟨x3, e3, q1⟩ := bindS q1
        obtain rfl := add_ok e3
        have y2 := ((ext_pos (s := s1) (s1.pos + 1)).trans v3).trans (ext_add ⟨mulK c, 0, 0, l1, x2.2, 0, [], []⟩)
        exact ⟨M', _, _, q1, v1, v2, q4.trans y2, _, expAt_new _, .inr (.inr (.inr (.inl ⟨htw, _, a, b, hop, rfl, Te.up y2 _ _ (Nat.le_refl _) _ _ q5, Te.up (ext_add _) _ _ (Nat.le_refl _) _ _ v4⟩)))⟩

theorem c_prod (hW : WsOk names L ws) (H : AllC L ws names n) {i j : Nat} {t : Code} (hd : der ws (n + 1) 4 i j t) (hjl : j ≤ L.length) (hF : Fo L 5 j) (hF2 : mulK (kd L j) = 0) {N : Nat} {s : RS} {r : RS × Int} (hr : rdr L N 10 s = some r) (hi : s.pos = i) (hb : s.bad = false) : r.1.pos = j ∧ r.1.bad = false ∧ Ext s r.1 ∧ Te names r.1 (n + 1) t r.2 := by
  obtain ⟨N, rfl⟩ := rdr_succ hr
  replace hr : tProd L (rdr L N) N s = some r := hr
  obtain ⟨M', s1, l1, q1, q2, q3, q4, q5⟩ := prod_pass hW H (n + 1) i j t (Nat.le_refl _) hd hjl hF N s r hr hi hb
  cases M' with
  | zero => cases q1
  | succ M' =>
    rw [tProdL] at q1
    have hk1 : (rPeek L s1).1 = kd L s1.pos := rfl
    rw [hk1, q2, if_pos hF2] at q1
    injection q1 with q1
    subst q1
    exact ⟨q2, q3, q4, q5⟩
end
end Go.Proofs.YtnbhnjokpcdnnaaDoor

namespace Go.Proofs.YtnbhnjokpcdnnaaDoor
section
variable {names : List (List UInt8)} {L : List (Int × Int)} {ws : List RW} {n : Nat}

theorem wd_of {i : Nat} {x : List UInt8} (h1 : i < ws.length) (h2 : (wAt ws i).isName = false) (h3 : tx ws i = x) : wd ws i x = true := by
  have h4 : (wAt ws i).text = x := h3
  simp [wd, h1, h2, h4]

/-- One word as an atom: what it is to the reader. -/
theorem one_kd (hW : WsOk names L ws) {i : Nat} (hi : i < L.length) {t : Code} (h : one1 ws i t) :
    (kd L i = 2 ∧ t = nd [118, 97, 114] 0 (tx ws i) [] [] []) ∨ ((kd L i = 1 ∨ kd L i = 20 ∨ kd L i = 21 ∨ kd L i = 25 ∨ kd L i = 19) ∧ ∃ k m, (k = [110, 117, 109] ∨ k = [98, 111, 111, 108] ∨ k = [110, 105, 108] ∨ k = [114, 101, 97, 100]) ∧ t = nd k m [] [] [] [] ∧ (k = [114, 101, 97, 100] → kd L i = 19)) := by
  have h2 : i < ws.length := hW.1 ▸ hi
  unfold one1 at h
  split at h
  · rename_i g
    exact .inl ⟨(kd_nm hW i).2 (by simp [isNm, h2, g]), h⟩
  rename_i g
  have g' : (wAt ws i).isName = false := by simpa using g
  right
  split at h
  · rename_i g2
    refine ⟨.inl ?_, _, _, .inl rfl, h, fun h => absurd h (by decide)⟩
    rcases hW.at hi with ⟨h1, _⟩ | ⟨h1, h3, h4⟩ | ⟨h1, m, h3, h4⟩
    · rw [g'] at h1; cases h1
    · unfold kd; rw [h4]
    · have : (wAt ws i).text = [] := g2
      rw [this] at h3
      exact (tok_ne _ (List.mem_of_getElem? h3) rfl).elim
  split at h
  · rename_i g2
    exact ⟨.inr (.inl ((kw hW (k := 17) rfl rfl).2 (wd_of h2 g' g2))), _, _, .inr (.inl rfl), h, fun h => absurd h (by decide)⟩
  split at h
  · rename_i g2
    exact ⟨.inr (.inr (.inl ((kw hW (k := 18) rfl rfl).2 (wd_of h2 g' g2)))), _, _, .inr (.inl rfl), h, fun h => absurd h (by decide)⟩
  split at h
  · rename_i g2
    exact ⟨.inr (.inr (.inr (.inl ((kw hW (k := 22) rfl rfl).2 (wd_of h2 g' g2))))), _, _, .inr (.inr (.inl rfl)), h, fun h => absurd h (by decide)⟩
  split at h
  · rename_i g2
    have := (kw hW (k := 16) (c := 19) rfl rfl).2 (wd_of h2 g' g2)
    exact ⟨.inr (.inr (.inr (.inr this))), _, _, .inr (.inr (.inr rfl)), h, fun _ => this⟩
  · exact h.elim

theorem atom_beg (hW : WsOk names L ws) {m i j : Nat} {t : Code} (hd : der ws m 6 i j t) (hj : j ≤ L.length) : begA (kd L i) = true := by
  cases m with
  | zero => exact hd.elim
  | succ m =>
    obtain ⟨h0, hd⟩ := hd
    replace hd : bAtom ws (der ws m) i j t := hd
    unfold bAtom at hd
    split at hd
    · rcases one_kd hW (by omega) hd with ⟨h, -⟩ | ⟨h, -⟩
      · rw [h]; decide
      · rcases h with h | h | h | h | h <;> (rw [h]; decide)
    · rw [(kw hW (k := 29) (c := 32) rfl rfl).2 hd.1]; decide

theorem atom_not (hW : WsOk names L ws) {m i j : Nat} {t : Code} (hd : der ws m 6 i j t) (hj : j ≤ L.length) : ¬ wd ws i [116, 104, 114, 111, 119] = true := by
  intro h
  have := atom_beg hW hd hj
  rw [(kw hW (k := 14) (c := 17) rfl rfl).2 h] at this
  revert this
  decide

theorem call_pass (hW : WsOk names L ws) (H : AllC L ws names n) {N : Nat} : ∀ (m i j : Nat) (t : Code), m ≤ n + 1 → der ws m 5 i j t → j ≤ L.length → isPre ws i = false → ¬ wd ws i [116, 104, 114, 111, 119] = true → ∀ (M : Nat) (s : RS) (r : RS × Int), tCall L (rdr L N) M s = some r → s.pos = i → s.bad = false →
    ∃ M' s1 l1, tCallL L (rdr L N) M' s1 l1 = some r ∧ s1.pos = j ∧ s1.bad = false ∧ Ext s s1 ∧ Te names s1 m t l1
  | 0, _, _, _, _, h, _, _, _, _, _, _, _, _, _ => h.elim
  | m + 1, i, j, t, hm, hd, hjl, hp, ht, M, s, r, hr, hi, hb => by
    obtain ⟨h0, hd⟩ := hd
    replace hd : bApp ws (der ws m) i j t := hd
    unfold bApp at hd
    rw [if_neg (by rw [hp]; decide), if_neg ht] at hd
    rcases hd with ⟨p, a, b, g1, g2, g3, g4, rfl⟩ | h
    · obtain ⟨M', s1, l1, q1, q2, q3, q4, q5⟩ := call_pass hW H m i p a (by omega) g4 (by omega) hp ht M s r hr hi hb
      cases M' with
      | zero => cases q1
      | succ M' =>
        rw [tCallL] at q1
        have hk1 : (rPeek L s1).1 = kd L s1.pos := rfl
        rw [hk1, q2, if_pos (atom_beg hW g3 hjl)] at q1
        obtain ⟨x2, e2, q1⟩ := bindS q1
        obtain ⟨v1, v2, v3, v4⟩ := H.e (k := 6) (by omega) (by decide) g3 trivial e2 q2 q3
        obtain ⟨x3, e3, q1⟩ := bindS q1
        obtain rfl := add_ok e3
        have y2 := v3.trans (ext_add ⟨26, 0, 0, l1, x2.2, 0, [], []⟩)
        exact ⟨M', _, _, q1, v1, v2, q4.trans y2, _, expAt_new _, .inr (.inr (.inr (.inl ⟨rfl, _, a, b, by decide, rfl, Te.up y2 _ _ (Nat.le_refl _) _ _ q5, Te.up (ext_add _) _ _ (Nat.le_refl _) _ _ v4⟩)))⟩
    · unfold tCall at hr
      obtain ⟨x1, e1, hr⟩ := bindS hr
      obtain ⟨u1, u2, u3, u4⟩ := H.e (k := 6) (by omega) (by decide) h trivial e1 hi hb
      exact ⟨M, x1.1, x1.2, hr, u1, u2, u3, Te.up (Ext.refl _) m (m + 1) (by omega) _ _ u4⟩

theorem isPre_out {i : Nat} (h : isPre ws i = true) : i < ws.length := by
  by_cases hi : i < ws.length
  · exact hi
  · have : wAt ws i = ⟨[], 0, false⟩ := by
      unfold wAt
      rw [List.getD_eq_getElem?_getD, List.getElem?_eq_none (by omega)]
      rfl
    unfold isPre tx at h
    rw [this] at h
    cases h

theorem c_app (hW : WsOk names L ws) (H : AllC L ws names n) {i j : Nat} {t : Code} (hd : der ws (n + 1) 5 i j t) (hjl : j ≤ L.length) (hF : Fo L 5 j) {N : Nat} {s : RS} {r : RS × Int} (hr : rdr L N 11 s = some r) (hi : s.pos = i) (hb : s.bad = false) : r.1.pos = j ∧ r.1.bad = false ∧ Ext s r.1 ∧ Te names r.1 (n + 1) t r.2 := by
  subst hi
  obtain ⟨N, rfl⟩ := rdr_succ hr
  replace hr : tApp L (rdr L N) s = some r := hr
  unfold tApp at hr
  have hk1 : (rPeek L s).1 = kd L s.pos := rfl
  rw [hk1] at hr
  have hd0 := hd
  obtain ⟨h0, hd⟩ := hd
  replace hd : bApp ws (der ws n) s.pos j t := hd
  unfold bApp at hd
  cases hp : isPre ws s.pos with
  | true =>
    rw [if_pos hp] at hd
    obtain ⟨a, g1, rfl⟩ := hd
    have hil : s.pos < L.length := hW.1 ▸ isPre_out hp
    have hne := (preP_iff hW hil).1 hp
    have hpk := preK_ne hne
    rw [if_neg (by omega), if_neg hne, step_q L _ hil] at hr
    obtain ⟨x1, e1, hr⟩ := bindS hr
    obtain ⟨u1, u2, u3, u4⟩ := H.e (k := 6) (Nat.le_refl _) (by decide) g1 trivial e1 rfl hb
    obtain rfl := add_ok hr
    have hkind : preK (kd L s.pos) = 22 ∨ preK (kd L s.pos) = 23 ∨ preK (kd L s.pos) = 24 := by
      rcases hpk with h | h | h <;> rw [h]
      · exact .inl rfl
      · exact .inr (.inl rfl)
      · exact .inr (.inr rfl)
    have htx : tx ws s.pos = [114, 97, 105, 115, 101] ∨ tx ws s.pos = [99, 97, 108, 108, 99, 99] ∨ tx ws s.pos = [112, 114, 105, 110, 116] := by
      unfold isPre at hp
      simp only [Bool.and_eq_true, Bool.or_eq_true, beq_iff_eq] at hp
      rcases hp.2 with (h | h) | h
      · exact .inl h
      · exact .inr (.inl h)
      · exact .inr (.inr h)
    exact ⟨u1, u2, (ext_pos _).trans (u3.trans (ext_add _)), _, expAt_new _, .inr (.inr (.inl ⟨hkind, _, a, htx, rfl, Te.up (ext_add _) _ _ (Nat.le_refl _) _ _ u4⟩))⟩
  | false =>
    rw [if_neg (by rw [hp]; decide)] at hd
    by_cases hth : wd ws s.pos [116, 104, 114, 111, 119] = true
    · rw [if_pos hth] at hd
      have hk := (kw hW (k := 14) (c := 17) rfl rfl).2 hth
      rw [if_pos hk] at hr
      rcases hd with ⟨p, a, b, g1, g2, g3, g4, rfl⟩ | h
      · obtain ⟨N, rfl⟩ := rdr_succ hr
        replace hr : tThrow L (rdr L N) s = some r := hr
        unfold tThrow at hr
        rw [want_ok (by decide) hk] at hr
        obtain ⟨x1, e1, hr⟩ := bindS hr
        obtain ⟨u1, u2, u3, u4⟩ := H.e (k := 6) (Nat.le_refl _) (by decide) g4 trivial e1 rfl hb
        obtain ⟨x2, e2, hr⟩ := bindS hr
        obtain ⟨v1, v2, v3, v4⟩ := H.e (k := 6) (Nat.le_refl _) (by decide) g3 trivial e2 u1 u2
        obtain rfl := add_ok hr
        have y2 := v3.trans (ext_add ⟨25, 0, 0, x1.2, x2.2, 0, [], []⟩)
        exact ⟨v1, v2, (ext_pos _).trans (u3.trans y2), _, expAt_new _, .inr (.inr (.inr (.inl ⟨rfl, _, a, b, by decide, rfl, Te.up y2 _ _ (Nat.le_refl _) _ _ u4, Te.up (ext_add _) _ _ (Nat.le_refl _) _ _ v4⟩)))⟩
      · exact (atom_not hW h hjl hth).elim
    · have hk17 : kd L s.pos ≠ 17 := fun h => hth ((kw hW (k := 14) rfl rfl).1 h)
      have hpk : preK (kd L s.pos) = 0 := by
        have := mt (preP_iff hW (by omega : s.pos < L.length)).2 (by rw [hp]; decide)
        exact Decidable.not_not.1 this
      rw [if_neg hk17, if_pos hpk] at hr
      obtain ⟨N, rfl⟩ := rdr_succ hr
      replace hr : tCall L (rdr L N) N s = some r := hr
      obtain ⟨M', s1, l1, q1, q2, q3, q4, q5⟩ := call_pass hW H (n + 1) s.pos j t (Nat.le_refl _) hd0 hjl hp hth N s r hr rfl hb
      cases M' with
      | zero => cases q1
      | succ M' =>
        rw [tCallL] at q1
        have hk1 : (rPeek L s1).1 = kd L s1.pos := rfl
        rw [hk1, q2, if_neg (by rw [show begA (kd L j) = false from hF]; decide)] at q1
        injection q1 with q1
        subst q1
        exact ⟨q2, q3, q4, q5⟩

theorem c_atom (hW : WsOk names L ws) (H : AllC L ws names n) {i j : Nat} {t : Code} (hij : i < j) (hd : bAtom ws (der ws n) i j t) (hjl : j ≤ L.length) {N : Nat} {s : RS} {r : RS × Int} (hr : rdr L N 14 s = some r) (hi : s.pos = i) (hb : s.bad = false) : r.1.pos = j ∧ r.1.bad = false ∧ Ext s r.1 ∧ Te names r.1 (n + 1) t r.2 := by
  subst hi
  obtain ⟨N, rfl⟩ := rdr_succ hr
  replace hr : tAtom L (rdr L N) s = some r := hr
  unfold tAtom at hr
  have hk1 : (rPeek L s).1 = kd L s.pos := rfl
  have hil : s.pos < L.length := by omega
  rw [hk1] at hr
  unfold bAtom at hd
  split at hd
  · rename_i hj
    rcases one_kd hW hil hd with ⟨h, rfl⟩ | ⟨h, k, m, h2, rfl, -⟩
    · have hz : ¬ atomK (kd L s.pos) = 0 := by rw [h]; decide
      rw [if_neg (by rw [h]; decide), if_neg hz, step_q L _ hil] at hr
      obtain rfl := add_ok hr
      refine ⟨hj.symm, hb, (ext_pos _).trans (ext_add _), _, expAt_new _, .inr (.inl ⟨by show atomK (kd L s.pos) = 4; rw [h]; rfl, ?_⟩)⟩
      have hk : (L.getD s.pos (0, 0)).1 = 2 := h
      rcases hW.at hil with ⟨h1, h2, h3, k, h4, h5⟩ | ⟨h1, h3, h4⟩ | ⟨h1, m, h3, h4⟩
      · exact ⟨_, k, h4, h5, rfl⟩
      · rw [h4] at hk; simp at hk
      · rw [h4] at hk; simp at hk; omega
    · have hz : ¬ atomK (kd L s.pos) = 0 := by rcases h with h | h | h | h | h <;> (rw [h]; decide)
      have h32 : ¬ kd L s.pos = 32 := by omega
      rw [if_neg h32, if_neg hz, step_q L _ hil] at hr
      obtain rfl := add_ok hr
      refine ⟨hj.symm, hb, (ext_pos _).trans (ext_add _), _, expAt_new _, .inl ⟨?_, k, m, h2, rfl⟩⟩
      show atomK (kd L s.pos) = 1 ∨ atomK (kd L s.pos) = 2 ∨ atomK (kd L s.pos) = 3 ∨ atomK (kd L s.pos) = 5 ∨ atomK (kd L s.pos) = 9
      rcases h with h | h | h | h | h <;> (rw [h]; decide)
  · obtain ⟨g1, g2, g3⟩ := hd
    have k1 := (kw hW (k := 29) (c := 32) rfl rfl).2 g1
    have k2 := (kw hW (k := 30) (c := 33) rfl rfl).2 g2
    rw [if_pos k1] at hr
    obtain ⟨N, rfl⟩ := rdr_succ hr
    replace hr : tBrackets L (rdr L N) s = some r := hr
    unfold tBrackets at hr
    rw [want_ok (by decide) k1] at hr
    obtain ⟨x1, e1, hr⟩ := bindS hr
    rcases g3 with g3 | ⟨p, a, b, g4, g5, g6, g7, g8, rfl⟩
    · obtain ⟨u1, u2, u3, u4⟩ := H.e (k := 0) (Nat.le_refl _) (by decide) g3 (fo_of k2 (by decide)) e1 rfl hb
      rw [take_no (by rw [u1, k2]; decide)] at hr
      simp only [Bool.false_eq_true, if_false] at hr
      rw [want_ok (by decide) (by rw [u1]; exact k2)] at hr
      injection hr with hr
      subst hr
      exact ⟨by show x1.1.pos + 1 = j; omega, u2, (ext_pos _).trans (u3.trans (ext_pos _)), Te.up (ext_pos _) n (n + 1) (by omega) _ _ u4⟩
    · have k3 := (kw hW (k := 31) (c := 34) rfl rfl).2 g6
      obtain ⟨u1, u2, u3, u4⟩ := H.e (k := 0) (Nat.le_refl _) (by decide) g7 (fo_of k3 (by decide)) e1 rfl hb
      rw [take_ok (by decide) (by rw [u1]; exact k3)] at hr
      simp only [if_true] at hr
      obtain ⟨x2, e2, hr⟩ := bindS hr
      obtain ⟨v1, v2, v3, v4⟩ := H.e (k := 0) (Nat.le_refl _) (by decide) g8 (fo_of k2 (by decide)) e2 (by simp only []; omega) u2
      obtain ⟨x3, e3, hr⟩ := bindS hr
      obtain rfl := add_ok e3
      injection hr with hr
      subst hr
      simp only []
      rw [want_ok (s := { x2.1 with exps := x2.1.exps ++ [⟨7, 0, 0, x1.2, x2.2, 0, [], []⟩] }) (by decide) (by show kd L x2.1.pos = 33; rw [v1]; exact k2)]
      have y2 := (ext_pos (s := x1.1) (x1.1.pos + 1)).trans (v3.trans (ext_add ⟨7, 0, 0, x1.2, x2.2, 0, [], []⟩))
      refine ⟨by show x2.1.pos + 1 = j; omega, v2, (ext_pos _).trans (u3.trans (y2.trans (ext_pos _))), ?_⟩
      refine Te.up (ext_pos _) (n + 1) (n + 1) (Nat.le_refl _) _ _ ?_
      exact ⟨_, expAt_new _, .inr (.inr (.inr (.inl ⟨rfl, _, a, b, by decide, rfl, Te.up y2 _ _ (Nat.le_refl _) _ _ u4, Te.up (ext_add _) _ _ (Nat.le_refl _) _ _ v4⟩)))⟩

theorem c_simple (hW : WsOk names L ws) (H : AllC L ws names n) {i j : Nat} {t : Code} (hij : i < j) (hd : bSimple ws (der ws n) i j t) (hjl : j ≤ L.length) {N : Nat} {s : RS} {r : RS × Int} (hr : rdr L N 17 s = some r) (hi : s.pos = i) (hb : s.bad = false) : r.1.pos = j ∧ r.1.bad = false ∧ Ext s r.1 ∧ Tp names r.1 (n + 1) t r.2 := by
  subst hi
  obtain ⟨N, rfl⟩ := rdr_succ hr
  replace hr : tSimple L (rdr L N) s = some r := hr
  unfold tSimple at hr
  have hk1 : (rPeek L s).1 = kd L s.pos := rfl
  have hil : s.pos < L.length := by omega
  rw [hk1] at hr
  unfold bSimple at hd
  split at hd
  · obtain ⟨g1, g2, g3⟩ := hd
    have k1 := (kw hW (k := 29) (c := 32) rfl rfl).2 g1
    have k2 := (kw hW (k := 30) (c := 33) rfl rfl).2 g2
    rw [if_pos k1] at hr
    obtain ⟨N, rfl⟩ := rdr_succ hr
    replace hr : tPatBrackets L (rdr L N) s = some r := hr
    unfold tPatBrackets at hr
    rw [want_ok (by decide) k1] at hr
    obtain ⟨x1, e1, hr⟩ := bindS hr
    rcases g3 with g3 | ⟨p, a, b, g4, g5, g6, g7, g8, rfl⟩
    · obtain ⟨u1, u2, u3, u4⟩ := H.p (k := 7) (Nat.le_refl _) (.inl rfl) g3 (by show kd L (j - 1) ≠ 24; rw [k2]; decide) e1 rfl hb
      rw [take_no (by rw [u1, k2]; decide)] at hr
      simp only [Bool.false_eq_true, if_false] at hr
      rw [want_ok (by decide) (by rw [u1]; exact k2)] at hr
      injection hr with hr
      subst hr
      exact ⟨by show x1.1.pos + 1 = j; omega, u2, (ext_pos _).trans (u3.trans (ext_pos _)), Tp.up (ext_pos _) n (n + 1) (by omega) _ _ u4⟩
    · have k3 := (kw hW (k := 31) (c := 34) rfl rfl).2 g6
      obtain ⟨u1, u2, u3, u4⟩ := H.p (k := 7) (Nat.le_refl _) (.inl rfl) g7 (by show kd L p ≠ 24; rw [k3]; decide) e1 rfl hb
      rw [take_ok (by decide) (by rw [u1]; exact k3)] at hr
      simp only [if_true] at hr
      obtain ⟨x2, e2, hr⟩ := bindS hr
      obtain ⟨v1, v2, v3, v4⟩ := H.p (k := 7) (Nat.le_refl _) (.inl rfl) g8 (by show kd L (j - 1) ≠ 24; rw [k2]; decide) e2 (by simp only []; omega) u2
      obtain ⟨x3, e3, hr⟩ := bindS hr
      obtain rfl := addP_ok e3
      injection hr with hr
      subst hr
      simp only []
      rw [want_ok (s := { x2.1 with pats := x2.1.pats ++ [⟨7, 0, 0, x1.2, x2.2⟩] }) (by decide) (by show kd L x2.1.pos = 33; rw [v1]; exact k2)]
      have y2 := (ext_pos (s := x1.1) (x1.1.pos + 1)).trans (v3.trans (ext_addP ⟨7, 0, 0, x1.2, x2.2⟩))
      refine ⟨by show x2.1.pos + 1 = j; omega, v2, (ext_pos _).trans (u3.trans (y2.trans (ext_pos _))), ?_⟩
      refine Tp.up (ext_pos _) (n + 1) (n + 1) (Nat.le_refl _) _ _ ?_
      exact ⟨_, patAt_new _, .inr (.inl ⟨.inl rfl, _, a, b, .inl rfl, rfl, Tp.up y2 _ _ (Nat.le_refl _) _ _ u4, Tp.up (ext_addP _) _ _ (Nat.le_refl _) _ _ v4⟩)⟩
  rename_i hj
  have hj' : s.pos + 1 = j := by omega
  split at hd
  · rename_i g
    subst hd
    have hil2 : s.pos < ws.length := hW.1 ▸ hil
    have hnn : (wAt ws s.pos).isName = false := by
      rcases hW.at hil with ⟨h1, h2, _⟩ | ⟨h1, _⟩ | ⟨h1, _⟩
      · have : (wAt ws s.pos).text = [95] := g
        rw [this] at h2
        exact (h2.2 (by decide)).elim
      · exact h1
      · exact h1
    have k22 := (kw hW (k := 19) (c := 22) rfl rfl).2 (wd_of hil2 hnn g)
    rw [if_neg (by omega), if_neg (by omega), if_pos k22, step_q L _ hil] at hr
    obtain rfl := addP_ok hr
    exact ⟨hj', hb, (ext_pos _).trans (ext_addP _), _, patAt_new _, .inr (.inr ⟨.inl rfl, _, _, .inl rfl, rfl⟩)⟩
  · rename_i g
    obtain ⟨hd, hrd⟩ := hd
    rcases one_kd hW hil hd with ⟨h, rfl⟩ | ⟨h, k, m, h2, rfl, h19⟩
    · rw [if_neg (by omega), if_pos h] at hr
      obtain ⟨x1, e1, hr⟩ := bindS hr
      obtain rfl := bnd_ok h e1
      obtain rfl := addP_ok hr
      exact ⟨hj', hb, (ext_bnd _ _).trans (ext_addP _), _, patAt_new _, .inl ⟨rfl, _, rfl, (bn_new hW h (s.pos + 1)).ext (ext_addP _)⟩⟩
    · have hr19 : kd L s.pos ≠ 19 := by
        intro h
        obtain ⟨h3, h4, -⟩ := wd_tx ((kw hW (k := 16) rfl rfl).1 h)
        exact hrd ⟨h3, h4⟩
      have hz : ¬ constK (kd L s.pos) = 0 := by
        rcases h with h | h | h | h | h
        · rw [h]; decide
        · rw [h]; decide
        · rw [h]; decide
        · rw [h]; decide
        · exact (hr19 h).elim
      rw [if_neg (by omega), if_neg (by omega), if_neg (by omega), if_neg hz, step_q L _ hil] at hr
      obtain rfl := addP_ok hr
      refine ⟨hj', hb, (ext_pos _).trans (ext_addP _), _, patAt_new _, .inr (.inr ⟨?_, k, m, ?_, rfl⟩)⟩
      · show constK (kd L s.pos) = 6 ∨ constK (kd L s.pos) = 1 ∨ constK (kd L s.pos) = 2 ∨ constK (kd L s.pos) = 3 ∨ constK (kd L s.pos) = 5
        rcases h with h | h | h | h | h
        · rw [h]; decide
        · rw [h]; decide
        · rw [h]; decide
        · rw [h]; decide
        · exact (hr19 h).elim
      · rcases h2 with h2 | h2 | h2 | h2
        · exact .inr (.inl h2)
        · exact .inr (.inr (.inl h2))
        · exact .inr (.inr (.inr h2))
        · exact (hr19 (h19 h2)).elim

theorem c_exp (hW : WsOk names L ws) (H : AllC L ws names n) {i j : Nat} {t : Code} (hij : i < j) (hd : bExp ws (der ws n) i j t) (hjl : j ≤ L.length) (hF : Fo L 0 j) {N : Nat} {s : RS} {r : RS × Int} (hr : rdr L N 0 s = some r) (hi : s.pos = i) (hb : s.bad = false) : r.1.pos = j ∧ r.1.bad = false ∧ Ext s r.1 ∧ Te names r.1 (n + 1) t r.2 := by
  obtain ⟨N, rfl⟩ := rdr_succ hr
  replace hr : tExp L (rdr L N) s = some r := hr
  unfold tExp at hr
  have hk1 : (rPeek L s).1 = kd L i := by rw [← hi]; rfl
  rw [hk1] at hr
  unfold bExp at hd
  by_cases h1 : wd ws i [108, 101, 116] = true
  · rw [if_pos h1] at hd
    rw [if_pos ((kw hW (k := 0) (c := 3) rfl rfl).2 h1)] at hr
    exact c_let hW H hij h1 hd hjl hF hr hi hb
  rw [if_neg h1] at hd
  rw [if_neg (fun h => h1 ((kw hW (k := 0) (c := 3) rfl rfl).1 h))] at hr
  by_cases h2 : wd ws i [102, 110] = true
  · rw [if_pos h2] at hd
    rw [if_pos ((kw hW (k := 4) (c := 7) rfl rfl).2 h2)] at hr
    exact c_fn hW H h2 hd hjl hF hr hi hb
  rw [if_neg h2] at hd
  rw [if_neg (fun h => h2 ((kw hW (k := 4) (c := 7) rfl rfl).1 h))] at hr
  by_cases h3 : wd ws i [105, 102] = true
  · rw [if_pos h3] at hd
    rw [if_pos ((kw hW (k := 5) (c := 8) rfl rfl).2 h3)] at hr
    exact c_if hW H h3 hd hjl hF hr hi hb
  rw [if_neg h3] at hd
  rw [if_neg (fun h => h3 ((kw hW (k := 5) (c := 8) rfl rfl).1 h))] at hr
  by_cases h4 : wd ws i [109, 97, 116, 99, 104] = true
  · rw [if_pos h4] at hd
    rw [if_pos ((kw hW (k := 8) (c := 11) rfl rfl).2 h4)] at hr
    exact c_match hW H hij h4 hd hr hi hb
  rw [if_neg h4] at hd
  rw [if_neg (fun h => h4 ((kw hW (k := 8) (c := 11) rfl rfl).1 h))] at hr
  by_cases h5 : wd ws i [116, 114, 121] = true
  · rw [if_pos h5] at hd
    rw [if_pos ((kw hW (k := 11) (c := 14) rfl rfl).2 h5)] at hr
    exact c_try hW H hij h5 hd hr hi hb
  rw [if_neg h5] at hd
  rw [if_neg (fun h => h5 ((kw hW (k := 11) (c := 14) rfl rfl).1 h))] at hr
  obtain ⟨u1, u2, u3, u4⟩ := H.e (k := 1) (Nat.le_refl _) (by decide) hd hF hr hi hb
  exact ⟨u1, u2, u3, Te.up (Ext.refl _) n (n + 1) (by omega) _ _ u4⟩

/-- What is derived is read so. -/
theorem c_all (hW : WsOk names L ws) : ∀ n, AllC L ws names n := by
  intro n
  induction n with
  | zero =>
    intro m hm
    obtain rfl : m = 0 := by omega
    exact ⟨fun _ _ _ _ _ h => h.elim, fun _ _ _ _ _ h => h.elim⟩
  | succ n H =>
    intro m hm
    by_cases hmn : m ≤ n
    · exact H m hmn
    obtain rfl : m = n + 1 := by omega
    refine ⟨?_, ?_⟩
    · intro k i j t hk hd hjl hF N s r hr hi hb
      have hd0 := hd
      obtain ⟨hij, hd⟩ := hd
      match k, hk, hd, hd0, hF, hr with
      | 0, _, hd, _, hF, hr => exact c_exp hW H hij hd hjl hF hr hi hb
      | 1, _, hd, _, hF, hr => exact c_cmp hW H hd hjl hF hr hi hb
      | 2, _, hd, _, hF, hr => exact c_cons hW H hd hjl hF hr hi hb
      | 3, _, _, hd0, hF, hr => exact c_sum hW H hd0 hjl ⟨hF.1, hF.2.1⟩ hF.2.2 hr hi hb
      | 4, _, _, hd0, hF, hr => exact c_prod hW H hd0 hjl hF.1 hF.2 hr hi hb
      | 5, _, _, hd0, hF, hr => exact c_app hW H hd0 hjl hF hr hi hb
      | 6, _, hd, _, _, hr => exact c_atom hW H hij hd hjl hr hi hb
      | k + 7, h, _, _, _, _ => omega
    · intro k i j t hk hd hjl hF N s r hr hi hb
      obtain ⟨hij, hd⟩ := hd
      rcases hk with rfl | rfl
      · exact c_pat hW H hd hjl hF hr hi hb
      · exact c_simple hW H hij hd hjl hr hi hb
end
end Go.Proofs.YtnbhnjokpcdnnaaDoor

/- Names in sight, as the reference finds them; and that the program finds the same. -/
namespace Go.Proofs.YtnbhnjokpcdnnaaDoor

def fromC : Code → List Code
  | .seq a l => a :: fromC l
  | _ => []

theorem from_to : ∀ l : List Code, fromC (toC l) = l
  | [] => rfl
  | a :: l => by simp [toC, fromC, from_to l]

def strAt (v : Option Value) : List UInt8 :=
  match v with
  | some (.string b) => b.data.toList
  | _ => []

def labOf : Code → Array Value
  | .cond (.const (.tuple l)) _ _ => l
  | _ => #[]
def kindOf (t : Code) : List UInt8 := strAt (labOf t)[0]?
def nmOf (t : Code) : List UInt8 := strAt (labOf t)[2]?
def ownOf (t : Code) : List UInt8 := strAt (labOf t)[3]?
def subsOf : Code → List Code
  | .cond _ s _ => fromC s
  | _ => []
def patsOf : Code → List Code
  | .cond _ _ p => fromC p
  | _ => []

section
variable {k nm ow : List UInt8} {m : Int} {a b : List Code}
theorem kindOf_nd : kindOf (nd k m nm ow a b) = k := by simp [kindOf, labOf, nd, lab, strAt]
theorem nmOf_nd : nmOf (nd k m nm ow a b) = nm := by simp [nmOf, labOf, nd, lab, strAt]
theorem ownOf_nd : ownOf (nd k m nm ow a b) = ow := by simp [ownOf, labOf, nd, lab, strAt]
theorem subsOf_nd : subsOf (nd k m nm ow a b) = a := from_to a
theorem patsOf_nd : patsOf (nd k m nm ow a b) = b := from_to b
end

/-- How many nodes a tree has. -/
def wt : Code → Nat
  | .cond _ s p => 1 + wt s + wt p
  | .seq a l => wt a + wt l
  | _ => 0

def wts (l : List Code) : Nat := (l.map wt).sum

theorem wt_toC : ∀ l : List Code, wt (toC l) = wts l
  | [] => rfl
  | a :: l => by simp [toC, wt, wts, wt_toC l]

theorem wt_nd {k nm ow : List UInt8} {m : Int} {a b : List Code} : wt (nd k m nm ow a b) = 1 + wts a + wts b := by
  show 1 + wt (toC a) + wt (toC b) = _
  rw [wt_toC, wt_toC]

/-- The names of a pattern behind those of inn; is each new? -/
def nAll (R : Code → List (List UInt8) → Option (List (List UInt8) × Bool)) : List Code → List (List UInt8) → Option (List (List UInt8) × Bool)
  | [], inn => some (inn, true)
  | a :: l, inn => (R a inn).bind fun x => (nAll R l x.1).bind fun y => some (y.1, x.2 && y.2)

def nR : Nat → Code → List (List UInt8) → Option (List (List UInt8) × Bool)
  | 0, _, _ => none
  | n + 1, q, inn => if kindOf q = [118, 97, 114] then some (inn ++ [nmOf q], !inn.contains (nmOf q)) else nAll (nR n) (subsOf q) inn

def dupR : List (List UInt8) → List (List UInt8) → Bool
  | _, [] => false
  | acc, x :: l => acc.contains x || dupR (acc ++ [x]) l

section
variable (R : Code → List (List UInt8) → Option Bool)
def bAll : List Code → List (List UInt8) → Option Bool
  | [], _ => some true
  | a :: l, nms => (R a nms).bind fun x => if x then bAll l nms else some false

def bArms (n : Nat) (nms : List (List UInt8)) : List Code → List Code → Bool → Option Bool
  | [], _, ok => some ok
  | q :: qs, b :: bs, ok => (nR n q []).bind fun x => (R b (nms ++ x.1)).bind fun y => bArms n nms qs bs (ok && x.2 && y)
  | _ :: _, [], _ => none
end

/-- Is every name in sight? -/
def bR : Nat → Code → List (List UInt8) → Option Bool
  | 0, _, _ => none
  | n + 1, t, nms =>
    if kindOf t = [118, 97, 114] then some (nms.contains (nmOf t))
    else if kindOf t = [102, 110] ∨ kindOf t = [100, 101, 102] then (subsOf t)[0]?.bind fun a => bR n a (nms ++ [nmOf t])
    else if kindOf t = [108, 101, 116] ∨ kindOf t = [116, 114, 121] then (subsOf t)[0]?.bind fun a => (subsOf t)[1]?.bind fun b => (bR n a nms).bind fun x => (bR n b (nms ++ [nmOf t])).bind fun y => some (x && y)
    else if kindOf t = [114, 101, 99] then (if dupR [] ((subsOf t).dropLast.map ownOf) then some false else bAll (bR n) (subsOf t) (nms ++ (subsOf t).dropLast.map ownOf))
    else if kindOf t = [109, 97, 116, 99, 104] then (subsOf t)[0]?.bind fun a => (bR n a nms).bind fun x => bArms (bR n) n nms (patsOf t) ((subsOf t).drop 1) x
    else bAll (bR n) (subsOf t) nms

section
variable (names : List (List UInt8)) (s : RS)

/-- Binders in sight, and their names. -/
def Sg : List Int → List (List UInt8) → Prop
  | [], [] => True
  | v :: l, x :: m => Bn names s v x ∧ Sg l m
  | _, _ => False
end

section
variable {names : List (List UInt8)} {s : RS}

theorem Sg.app : ∀ {a : List Int} {b : List (List UInt8)} {c : List Int} {d : List (List UInt8)}, Sg names s a b → Sg names s c d → Sg names s (a ++ c) (b ++ d)
  | [], [], _, _, _, h => h
  | _ :: _, _ :: _, _, _, h1, h2 => ⟨h1.1, Sg.app h1.2 h2⟩
  | [], _ :: _, _, _, h, _ => h.elim
  | _ :: _, [], _, _, h, _ => h.elim

theorem Sg.len : ∀ {a : List Int} {b : List (List UInt8)}, Sg names s a b → a.length = b.length
  | [], [], _ => rfl
  | _ :: _, _ :: _, h => by simp [Sg.len h.2]
  | [], _ :: _, h => h.elim
  | _ :: _, [], h => h.elim

theorem Sg.one {v : Int} {x : List UInt8} (h : Bn names s v x) : Sg names s [v] [x] := ⟨h, trivial⟩

theorem Bn.bOk {v : Int} {x : List UInt8} (h : Bn names s v x) : bOk s v = true := by
  obtain ⟨h0, k, h1, -⟩ := h
  unfold Go.Proofs.YtnbhnjokpcdnnaaDoor.bOk
  simp only [Bool.and_eq_true, decide_eq_true_eq]
  exact ⟨h0, (List.getElem?_eq_some_iff.1 h1).1⟩

theorem Bn.nm {v : Int} {x : List UInt8} (h : Bn names s v x) : ∃ k : Nat, nm s v = k ∧ names[k]? = some x := by
  obtain ⟨h0, k, h1, h2⟩ := h
  refine ⟨k, ?_, h2⟩
  unfold Go.Proofs.YtnbhnjokpcdnnaaDoor.nm
  rw [List.getD_eq_getElem?_getD, h1]
  rfl

theorem nodup_inj : ∀ {l : List (List UInt8)}, l.Nodup → ∀ {i j : Nat} {x : List UInt8}, l[i]? = some x → l[j]? = some x → i = j
  | [], _, i, _, _, h, _ => by simp at h
  | a :: l, hn, 0, 0, _, _, _ => rfl
  | a :: l, hn, 0, j + 1, x, h1, h2 => by
    rw [List.nodup_cons] at hn
    simp at h1 h2
    subst h1
    exact (hn.1 (List.mem_of_getElem? h2)).elim
  | a :: l, hn, i + 1, 0, x, h1, h2 => by
    rw [List.nodup_cons] at hn
    simp at h1 h2
    subst h2
    exact (hn.1 (List.mem_of_getElem? h1)).elim
  | a :: l, hn, i + 1, j + 1, x, h1, h2 => by
    rw [List.nodup_cons] at hn
    simp at h1 h2
    rw [nodup_inj hn.2 h1 h2]

/-- Looked for by number, or by text. -/
theorem Sg.any (hN : names.Nodup) {k : Nat} {y : List UInt8} (hk : names[k]? = some y) : ∀ {a : List Int} {b : List (List UInt8)}, Sg names s a b → (a.any fun v => nm s v == (k : Int)) = b.contains y
  | [], [], _ => rfl
  | v :: a, x :: b, h => by
    obtain ⟨k', h1, h2⟩ := h.1.nm
    rw [List.any_cons, List.contains_cons, Sg.any hN hk h.2, h1]
    congr 1
    by_cases hxy : y = x
    · subst hxy
      rw [nodup_inj hN h2 hk]
      simp
    · have : k' ≠ k := by
        rintro rfl
        rw [hk] at h2
        injection h2 with h2
        exact hxy h2
      have h3 : ¬ (k' : Int) = (k : Int) := by omega
      rw [beq_eq_false_iff_ne.2 h3, beq_eq_false_iff_ne.2 hxy]
  | [], _ :: _, h => h.elim
  | _ :: _, [], h => h.elim

theorem len_wts : ∀ {ds : List Code}, (∀ d ∈ ds, 0 < wt d) → ds.length ≤ wts ds
  | [], _ => Nat.le_refl _
  | d :: ds, h => by
    have := len_wts (ds := ds) (fun d hd => h d (by simp [hd]))
    have h1 := h d (by simp)
    simp [wts] at this ⊢
    omega

theorem wts_cons {d : Code} {ds : List Code} : wts (d :: ds) = wt d + wts ds := by simp [wts]
theorem wts_nil : wts [] = 0 := rfl
theorem wts_app {a b : List Code} : wts (a ++ b) = wts a + wts b := by simp [wts]

/-- Patterns. -/
theorem pat_eq (hN : names.Nodup) (sg0 : List Int) : ∀ (n : Nat) (q : Code) (x : Int) (sg1 : List Int) (inn : List (List UInt8)), Tp names s n q x → Sg names s sg1 inn → (sg0 ++ sg1).length + wt q ≤ 1000 →
    ∃ sg2 inn2 w, fPat s sg0.length n x (sg0 ++ sg1) = some (sg0 ++ sg2, w) ∧ (∀ m, n ≤ m → nR m q inn = some (inn2, !w)) ∧ Sg names s sg2 inn2 ∧ sg2.length ≤ sg1.length + wt q
  | 0, _, _, _, _, h, _, _ => h.elim
  | n + 1, q, x, sg1, inn, ⟨p, h1, h2⟩, hS, hl => by
    rw [fPat, h1]
    simp only [Option.bind_some]
    rcases h2 with ⟨hk, y, rfl, hb⟩ | ⟨hk, k, a, b, hk2, rfl, ha, hb⟩ | ⟨hk, k, m, hk2, rfl⟩
    · rw [wt_nd] at hl ⊢
      rw [if_pos hk]
      obtain ⟨kk, b1, b2⟩ := hb.nm
      refine ⟨sg1 ++ [p.binder], inn ++ [y], sg1.any fun v => nm s v == nm s p.binder, ?_, ?_, hS.app (Sg.one hb), by simp; omega⟩
      · unfold fBind
        rw [hb.bOk, if_pos (by simp at hl ⊢; omega), List.append_assoc, List.drop_left]
      · intro m hm
        obtain ⟨m, rfl⟩ : ∃ m', m = m' + 1 := ⟨m - 1, by omega⟩
        rw [nR, if_pos kindOf_nd, nmOf_nd, b1, Sg.any hN b2 hS]
    · rw [wt_nd] at hl ⊢
      simp only [wts_cons, wts_nil] at hl ⊢
      have hkv : ¬ kindOf (nd k 0 [] [] [a, b] []) = [118, 97, 114] := by rw [kindOf_nd]; rcases hk2 with rfl | rfl <;> decide
      rw [if_neg (by omega), if_pos hk]
      obtain ⟨sg2, inn2, w2, e1, e2, e3, e4⟩ := pat_eq hN sg0 n a p.first sg1 inn ha hS (by omega)
      obtain ⟨sg3, inn3, w3, f1, f2, f3, f4⟩ := pat_eq hN sg0 n b p.second sg2 inn2 hb e3 (by simp at hl ⊢; omega)
      refine ⟨sg3, inn3, w2 || w3, ?_, ?_, f3, by omega⟩
      · rw [e1]; simp only [Option.bind_some]; rw [f1]; rfl
      · intro m hm
        obtain ⟨m, rfl⟩ : ∃ m', m = m' + 1 := ⟨m - 1, by omega⟩
        rw [nR, if_neg hkv, subsOf_nd]
        simp only [nAll]
        rw [e2 m (by omega)]; simp only [Option.bind_some]; rw [f2 m (by omega)]
        simp
    · have hkv : ¬ kindOf (nd k m [] [] [] []) = [118, 97, 114] := by rw [kindOf_nd]; rcases hk2 with rfl | rfl | rfl | rfl <;> decide
      rw [if_neg (by omega), if_neg (by omega)]
      refine ⟨sg1, inn, false, rfl, fun m' hm => ?_, hS, by omega⟩
      obtain ⟨m', rfl⟩ : ∃ m2, m' = m2 + 1 := ⟨m' - 1, by omega⟩
      rw [nR, if_neg hkv, subsOf_nd]
      rfl

/-- The functions of a group. -/
theorem binds_eq (hN : names.Nodup) {R : Code → Int → Prop} (sg0 : List Int) : ∀ (ds : List Code) (fs : List (Int × Int × Int)) (sg1 : List Int) (inn : List (List UInt8)), Tfs names s R ds fs → Sg names s sg1 inn → (sg0 ++ sg1).length + ds.length ≤ 1000 →
    ∃ sg2 w, fBinds s sg0.length fs (sg0 ++ sg1) = some (sg0 ++ sg2, w) ∧ w = dupR inn (ds.map ownOf) ∧ Sg names s sg2 (inn ++ ds.map ownOf)
  | [], [], sg1, inn, _, hS, _ => ⟨sg1, false, rfl, rfl, by simpa using hS⟩
  | d :: ds, f :: fs, sg1, inn, ⟨⟨own, x, b, hd, h1, h2, h3⟩, h4⟩, hS, hl => by
    obtain ⟨kk, b1, b2⟩ := h1.nm
    obtain ⟨sg2, w, e1, e2, e3⟩ := binds_eq hN sg0 ds fs (sg1 ++ [f.1]) (inn ++ [own]) h4 (hS.app (Sg.one h1)) (by simp at hl ⊢; omega)
    have ho : ownOf d = own := by rw [hd]; exact ownOf_nd
    refine ⟨sg2, (((sg0 ++ sg1).drop sg0.length).any fun v => nm s v == nm s f.1) || w, ?_, ?_, ?_⟩
    · rw [fBinds]
      unfold fBind
      rw [h1.bOk, if_pos (by simp at hl ⊢; omega)]
      simp only [Option.bind_some]
      rw [List.append_assoc, e1]
      simp only [Option.bind_some]
    · rw [List.drop_left, b1, Sg.any hN b2 hS, e2, List.map_cons, ho]
      rfl
    · rw [List.map_cons, ho]
      simpa using e3
  | [], _ :: _, _, _, h, _, _ => h.elim
  | _ :: _, [], _, _, h, _, _ => h.elim

end
end Go.Proofs.YtnbhnjokpcdnnaaDoor
